/-
  Rows that came out: in a rack, or in a pool; lists of values of several cells. By an AI agent.
-/
import Derived.Test.YtnkdgmnmmmjgjaaGreatBGArr
import Derived.Test.YtnkdgmnmmmjgjaaGreatBGOwnMem
import Derived.Test.YtnkdgmnmmmjgjaaGreatBGWide
namespace Go.Proofs.YtnkdgmnmmmjgjaaGreat
open Go.RowKit

/-- A list of lists that came out, each in memory of its own. -/
structure Rack (w : World) (e le : TypeId) (lv : Value) (vs : List (Value × List Value)) : Prop where
  own : w.ownsRow 0 le 1 lv vs.length (vs.map (·.1))
  row : ∀ (j : Nat) (v : Value) (xs : List Value), vs[j]? = some (v, xs) → OwnR w 0 v xs.length xs
  apart : ∀ (i j : Nat) (v : Value) (xs : List Value) (v' : Value) (xs' : List Value) (g : Nat), i ≠ j → vs[i]? = some (v, xs) → vs[j]? = some (v', xs') → v.ownBlock = some g → v'.ownBlock ≠ some g
  list : ∀ (j : Nat) (v : Value) (xs : List Value) (g : Nat), vs[j]? = some (v, xs) → v.ownBlock = some g → lv.ownBlock ≠ some g

def rackT (e le : TypeId) (lv : Value) (vs : List (Value × List Value)) : Thing where
  F := lv.ownBlock.toList ++ rowsOf vs
  P := fun w => Rack w e le lv vs
  lt := fun w h k hk => by
    rcases List.mem_append.1 hk with hk | hk
    · exact (h.own.lt k (by simpa using hk)).2
    · obtain ⟨j, v, xs, hj, hg⟩ := rowsOf_spec hk
      exact ((h.row j v xs hj).lt k hg).2
  stays := fun w w' s h c hs => ⟨owns_chg h.own c (fun k hk => hs k (List.mem_append_left _ (by simp [hk]))), fun j v xs hj => (h.row j v xs hj).chg c (fun k hk => hs k (List.mem_append_right _ (rowsOf_mem hj hk))), h.apart, h.list⟩

theorem Rack.nil (w : World) (e le : TypeId) : Rack w e le (.slice none 0 0) [] := ⟨World.ownsRow_nil _ _ _ _, fun j v xs hj => by simp at hj, fun i j v xs v' xs' g _ hi => by simp at hi, fun j v xs g hj => by simp at hj⟩

theorem rowsOf_append (a b : List (Value × List Value)) : rowsOf (a ++ b) = rowsOf a ++ rowsOf b := by simp [rowsOf]

/-- One list more in the rack: behind the append. -/
theorem Side.shelve {w0 w wn : World} {ts : List Thing} {e0 e le : TypeId} {lv lv' v : Value} {vs : List (Value × List Value)} {xs : List Value} {x : Obj} (h : Side w0 w (ownT e0 v xs :: rackT e le lv vs :: ts))
    (ol : wn.ownsRow 0 le 1 lv' (vs.length + 1) (vs.map (·.1) ++ [v])) (gr : (w.alloc x).grownBy wn lv.ownBlock) (nb : lv'.ownBlock = lv.ownBlock ∨ (lv'.ownBlock = some (w.heap.size + 1) ∧ (w.alloc x).grownBy wn none)) :
    Side w0 wn (rackT e le lv' (vs ++ [(v, xs)]) :: ts) := by
  have hv : w.ownsRow 0 e0 1 v xs.length xs := h.get 0 rfl
  have hr : Rack w e le lv vs := h.get 1 rfl
  have hoff : ∀ k, v.ownBlock = some k → k ∉ lv.ownBlock.toList ++ rowsOf vs := fun k hk hm => (List.pairwise_cons.1 h.apart).1 _ List.mem_cons_self k (by simp [ownT, hk]) hm
  have c1 : Chg lv.ownBlock.toList w wn := (((Chg.refl [] w).alloc x).mono (by simp)).grown gr (fun k hk => .inl (by rw [hk]; simp))
  have lvn : ∀ k, lv'.ownBlock = some k → lv.ownBlock = some k ∨ w.heap.size ≤ k := fun k hk => by
    rcases nb with q | ⟨q, _⟩
    · rw [q] at hk; exact .inl hk
    · rw [q] at hk; simp at hk; exact .inr (by omega)
  have lst : ∀ (j : Nat) (v' : Value) (xs' : List Value), (vs ++ [(v, xs)])[j]? = some (v', xs') → (vs[j]? = some (v', xs') ∧ j < vs.length) ∨ (j = vs.length ∧ v' = v ∧ xs' = xs) := fun j v' xs' hj => by
    by_cases hjl : j < vs.length
    · rw [List.getElem?_append_left hjl] at hj; exact .inl ⟨hj, hjl⟩
    · have hj2 : j < (vs ++ [(v, xs)]).length := (List.getElem?_eq_some_iff.1 hj).1
      obtain rfl : j = vs.length := by simp at hj2; omega
      rw [List.getElem?_append_right (Nat.le_refl _), Nat.sub_self] at hj
      have := Option.some.inj hj
      simp only [Prod.mk.injEq] at this
      exact .inr ⟨rfl, this.1.symm, this.2.symm⟩
  refine h.join c1 (fun k hk => .inr (.inl (List.mem_append_left _ hk))) ⟨?_, fun j v' xs' hj => ?_, fun i j v1 xs1 v2 xs2 g hij hi hj h1 h2 => ?_, fun j v' xs' g hj h1 h2 => ?_⟩ (fun k hk => ?_)
  · simpa using ol
  · rcases lst j v' xs' hj with ⟨q, _⟩ | ⟨_, rfl, rfl⟩
    · exact (hr.row j v' xs' q).chg c1 (fun k hk hm => hr.list j v' xs' k q hk (by simpa using hm))
    · exact ⟨e0, owns_chg hv c1 (fun k hk hm => hoff k hk (List.mem_append_left _ hm))⟩
  · rcases lst i v1 xs1 hi with ⟨q, _⟩ | ⟨qi, rfl, rfl⟩
    · rcases lst j v2 xs2 hj with ⟨q2, _⟩ | ⟨qj, rfl, rfl⟩
      · exact hr.apart i j v1 xs1 v2 xs2 g hij q q2 h1 h2
      · exact hoff g h2 (List.mem_append_right _ (rowsOf_mem q h1))
    · rcases lst j v2 xs2 hj with ⟨q2, _⟩ | ⟨qj, _, _⟩
      · exact hoff g h1 (List.mem_append_right _ (rowsOf_mem q2 h2))
      · omega
  · rcases lst j v' xs' hj with ⟨q, _⟩ | ⟨_, rfl, rfl⟩
    · rcases lvn g h2 with q2 | q2
      · exact hr.list j v' xs' g q h1 q2
      · have := ((hr.row j v' xs' q).lt g h1).2
        omega
    · rcases lvn g h2 with q2 | q2
      · exact hoff g h1 (List.mem_append_left _ (by simp [q2]))
      · have := (hv.lt g h1).2
        omega
  · rcases List.mem_append.1 hk with hk | hk
    · rcases lvn k (by simpa using hk) with q | q
      · exact .inr (.inl (List.mem_append_left _ (by simp [q])))
      · exact .inr (.inr q)
    · rw [rowsOf_append] at hk
      rcases List.mem_append.1 hk with hk | hk
      · exact .inr (.inl (List.mem_append_right _ hk))
      · refine .inl ?_
        obtain ⟨j, v', xs', hj, hg⟩ := rowsOf_spec hk
        have : v' = v := by
          have := List.mem_of_getElem? hj
          simp at this
          exact this.1
        subst this
        simp [ownT, hg]

theorem Rack.owns {w : World} {e le : TypeId} {g c : Nat} {vs : List (Value × List Value)} (h : Rack w e le (.slice (some ⟨g, 0, none⟩) vs.length c) vs) (hg : g < w.heap.size) : Owns w 0 e g 0 vs :=
  ⟨fun j v xs hj => by rw [Nat.zero_add]; exact ownsRow_cellAt h.own (by rw [List.getElem?_map, hj]; rfl), h.row, h.apart, fun j v xs hj hk => h.list j v xs g hj hk rfl, hg⟩

/-- Rows that came out and lie nowhere yet: each in memory of its own. -/
structure Pool (w : World) (vs : List (Value × List Value)) : Prop where
  row : ∀ p ∈ vs, OwnR w 0 p.1 p.2.length p.2
  apart : vs.Pairwise fun p q => ∀ g, p.1.ownBlock = some g → q.1.ownBlock ≠ some g

def poolT (vs : List (Value × List Value)) : Thing where
  F := rowsOf vs
  P := fun w => Pool w vs
  lt := fun w h k hk => by
    obtain ⟨j, v, xs, hj, hg⟩ := rowsOf_spec hk
    exact ((h.row _ (List.mem_of_getElem? hj)).lt k hg).2
  stays := fun w w' s h c hs => ⟨fun p hp => (h.row p hp).chg c (fun k hk => hs k (by
    obtain ⟨j, hj⟩ := List.mem_iff_getElem?.1 hp
    exact rowsOf_mem (v := p.1) (xs := p.2) hj hk)), h.apart⟩

theorem rowsOf_cons (p : Value × List Value) (vs : List (Value × List Value)) : rowsOf (p :: vs) = p.1.ownBlock.toList ++ rowsOf vs := by
  unfold rowsOf
  cases h : p.1.ownBlock <;> simp [h]

/-- The first of them by itself. -/
theorem Side.draw {w0 w : World} {ts : List Thing} {p : Value × List Value} {vs : List (Value × List Value)} (h : Side w0 w (poolT (p :: vs) :: ts)) : ∃ e, Side w0 w (ownT e p.1 p.2 :: poolT vs :: ts) := by
  have hp : Pool w (p :: vs) := h.get 0 rfl
  obtain ⟨e, he⟩ := hp.row p List.mem_cons_self
  obtain ⟨a1, a2⟩ := List.pairwise_cons.1 hp.apart
  refine ⟨e, Side.swap (olds := [poolT (p :: vs)]) (bs := [ownT e p.1 p.2, poolT vs]) h (Chg.refl [] w) (fun k hk => by cases hk) (fun b hb => ?_) (fun b hb k hk => ?_) (List.pairwise_cons.2 ⟨fun b hb k hk hm => ?_, List.pairwise_singleton _ _⟩)⟩
  · rcases List.mem_cons.1 hb with rfl | hb
    · exact he
    · rw [List.mem_singleton.1 hb]
      exact ⟨fun q hq => hp.row q (List.mem_cons_of_mem _ hq), a2⟩
  · refine .inl ⟨_, List.mem_singleton.2 rfl, ?_⟩
    show k ∈ rowsOf (p :: vs)
    rw [rowsOf_cons]
    rcases List.mem_cons.1 hb with rfl | hb
    · exact List.mem_append_left _ hk
    · rw [List.mem_singleton.1 hb] at hk
      exact List.mem_append_right _ hk
  · rw [List.mem_singleton.1 hb] at hm
    obtain ⟨j, v, xs, hj, hg⟩ := rowsOf_spec hm
    exact a1 (v, xs) (List.mem_of_getElem? hj) k (by simpa [ownT] using hk) hg

/-- One more among them. -/
theorem Side.pool {w0 w : World} {ts : List Thing} {e : TypeId} {v : Value} {xs : List Value} {vs : List (Value × List Value)} (h : Side w0 w (ownT e v xs :: poolT vs :: ts)) : Side w0 w (poolT (vs ++ [(v, xs)]) :: ts) := by
  have ho : w.ownsRow 0 e 1 v xs.length xs := h.get 0 rfl
  have hp : Pool w vs := h.get 1 rfl
  have hoff : ∀ k, v.ownBlock = some k → k ∉ rowsOf vs := fun k hk hm => (List.pairwise_cons.1 h.apart).1 _ List.mem_cons_self k (by simp [ownT, hk]) hm
  refine h.join (Chg.refl [] w) (fun k hk => by cases hk) ⟨fun p hp2 => ?_, ?_⟩ (fun k hk => ?_)
  · rcases List.mem_append.1 hp2 with q | q
    · exact hp.row p q
    · rw [List.mem_singleton.1 q]
      exact ⟨e, ho⟩
  · refine List.pairwise_append.2 ⟨hp.apart, List.pairwise_singleton _ _, fun p hp2 q hq g hg hg2 => ?_⟩
    rw [List.mem_singleton.1 hq] at hg2
    obtain ⟨j, hj⟩ := List.mem_iff_getElem?.1 hp2
    exact hoff g hg2 (rowsOf_mem (v := p.1) (xs := p.2) hj hg)
  · have hk2 : k ∈ rowsOf (vs ++ [(v, xs)]) := hk
    rw [rowsOf_append] at hk2
    rcases List.mem_append.1 hk2 with q | q
    · exact .inr (.inl q)
    · rw [rowsOf_cons] at q
      rcases List.mem_append.1 q with q | q
      · exact .inl q
      · simp [rowsOf] at q

theorem Pool.nil (w : World) : Pool w [] := ⟨fun p hp => (by cases hp), List.Pairwise.nil⟩

/-- A list of values of several cells, in memory of its own. -/
def wideT (s : Nat) (e : TypeId) (v : Value) (xs : List (List Value)) : Thing where
  F := v.ownBlock.toList
  P := fun w => OwnW s w 0 e v xs
  lt := fun w h k hk => (h.lt k (by simpa using hk)).2
  stays := fun w w' t h c hs => h.chg c (fun k hk => hs k (by rw [hk]; simp))

/-- What stood first is of no more concern, whatever it became. -/
theorem Side.gone {w0 w w' : World} {a : Thing} {ts : List Thing} {s : List Nat} (h : Side w0 w (a :: ts)) (c : Chg s w w') (hs : ∀ k ∈ s, k ∈ a.F) : Side w0 w' ts :=
  Side.swap (olds := [a]) (bs := []) h c (fun k hk => .inl ⟨a, List.mem_singleton.2 rfl, hs k hk⟩) (fun b hb => by cases hb) (fun b hb => by cases hb) List.Pairwise.nil

theorem Pool.sub {w : World} {vs us : List (Value × List Value)} (h : Pool w vs) (s : us.Sublist vs) : Pool w us := ⟨fun p hp => h.row p (s.subset hp), h.apart.sublist s⟩

theorem rowsOf_sub {vs us : List (Value × List Value)} (s : us.Sublist vs) {k : Nat} (hk : k ∈ rowsOf us) : k ∈ rowsOf vs := (s.filterMap _).subset hk

theorem Side.poolSub {w0 w : World} {ts : List Thing} {vs us : List (Value × List Value)} (h : Side w0 w (poolT vs :: ts)) (s : us.Sublist vs) : Side w0 w (poolT us :: ts) :=
  h.turn (b := poolT us) (Chg.refl [] w) (fun k hk => by cases hk) (Pool.sub (h.get 0 rfl) s) (fun _ hk => .inl (rowsOf_sub s hk))

/-- Blocks of two of them. -/
theorem Side.offAt {w0 w : World} {ts : List Thing} {a b : Thing} (h : Side w0 w ts) (i j : Nat) (hi : ts[i]? = some a) (hj : ts[j]? = some b) (hij : i ≠ j) : a.off b := by
  obtain ⟨hi1, rfl⟩ := List.getElem?_eq_some_iff.1 hi
  obtain ⟨hj1, rfl⟩ := List.getElem?_eq_some_iff.1 hj
  have hp := List.pairwise_iff_getElem.1 h.apart
  rcases Nat.lt_or_gt_of_ne hij with q | q
  · exact hp i j hi1 hj1 q
  · exact (hp j i hj1 hi1 q).symm

end Go.Proofs.YtnkdgmnmmmjgjaaGreat

/-
  A book of lists of values of several cells: its rack stands beside its own block. No function of the program is named here. By an AI agent.
-/
namespace Go.Proofs.YtnkdgmnmmmjgjaaGreat
open Go.RowKit

/-- A list of lists that came out, each in memory of its own. -/
structure RackW (s : Nat) (w : World) (e le : TypeId) (lv : Value) (vs : Wides) : Prop where
  own : w.ownsRow 0 le 1 lv vs.length (vs.map (·.1))
  row : ∀ (j : Nat) (v : Value) (xs : List (List Value)), vs[j]? = some (v, xs) → OwnW s w 0 e v xs
  apart : ∀ (i j : Nat) (v : Value) (xs : List (List Value)) (v' : Value) (xs' : List (List Value)) (g : Nat), i ≠ j → vs[i]? = some (v, xs) → vs[j]? = some (v', xs') → v.ownBlock = some g → v'.ownBlock ≠ some g
  list : ∀ (j : Nat) (v : Value) (xs : List (List Value)) (g : Nat), vs[j]? = some (v, xs) → v.ownBlock = some g → lv.ownBlock ≠ some g

def rackWT (s : Nat) (e le : TypeId) (lv : Value) (vs : Wides) : Thing where
  F := lv.ownBlock.toList ++ blocksOf vs
  P := fun w => RackW s w e le lv vs
  lt := fun w h k hk => by
    rcases List.mem_append.1 hk with hk | hk
    · exact (h.own.lt k (by simpa using hk)).2
    · obtain ⟨j, v, xs, hj, hg⟩ := blocksOf_spec hk
      exact ((h.row j v xs hj).lt k hg).2
  stays := fun w w' t h c hs => ⟨owns_chg h.own c (fun k hk => hs k (List.mem_append_left _ (by simp [hk]))), fun j v xs hj => (h.row j v xs hj).chg c (fun k hk => hs k (List.mem_append_right _ (blocksOf_mem hj hk))), h.apart, h.list⟩

theorem RackW.nil (s : Nat) (w : World) (e le : TypeId) : RackW s w e le (.slice none 0 0) [] := ⟨World.ownsRow_nil _ _ _ _, fun j v xs hj => by simp at hj, fun i j v xs v' xs' g _ hi => by simp at hi, fun j v xs g hj => by simp at hj⟩

theorem blocksOf_append (a b : Wides) : blocksOf (a ++ b) = blocksOf a ++ blocksOf b := by simp [blocksOf]

/-- One list more in the rack: behind the append. -/
theorem Side.shelveW {w0 w wn : World} {a : Thing} {ts : List Thing} {s : Nat} {e le : TypeId} {lv lv' v : Value} {vs : Wides} {xs : List (List Value)} {x : Obj} (h : Side w0 w (a :: rackWT s e le lv vs :: ts))
    (haF : a.F = v.ownBlock.toList) (hv : OwnW s w 0 e v xs)
    (ol : wn.ownsRow 0 le 1 lv' (vs.length + 1) (vs.map (·.1) ++ [v])) (gr : (w.alloc x).grownBy wn lv.ownBlock) (nb : lv'.ownBlock = lv.ownBlock ∨ (lv'.ownBlock = some (w.heap.size + 1) ∧ (w.alloc x).grownBy wn none)) :
    Side w0 wn (rackWT s e le lv' (vs ++ [(v, xs)]) :: ts) := by
  have hr : RackW s w e le lv vs := h.get 1 rfl
  have hoff : ∀ k, v.ownBlock = some k → k ∉ lv.ownBlock.toList ++ blocksOf vs := fun k hk hm => (List.pairwise_cons.1 h.apart).1 _ List.mem_cons_self k (by rw [haF]; simp [hk]) hm
  have c1 : Chg lv.ownBlock.toList w wn := (((Chg.refl [] w).alloc x).mono (by simp)).grown gr (fun k hk => .inl (by rw [hk]; simp))
  have lvn : ∀ k, lv'.ownBlock = some k → lv.ownBlock = some k ∨ w.heap.size ≤ k := fun k hk => by
    rcases nb with q | ⟨q, _⟩
    · rw [q] at hk; exact .inl hk
    · rw [q] at hk; simp at hk; exact .inr (by omega)
  have lst : ∀ (j : Nat) (v' : Value) (xs' : List (List Value)), (vs ++ [(v, xs)])[j]? = some (v', xs') → (vs[j]? = some (v', xs') ∧ j < vs.length) ∨ (j = vs.length ∧ v' = v ∧ xs' = xs) := fun j v' xs' hj => by
    by_cases hjl : j < vs.length
    · rw [List.getElem?_append_left hjl] at hj; exact .inl ⟨hj, hjl⟩
    · have hj2 : j < (vs ++ [(v, xs)]).length := (List.getElem?_eq_some_iff.1 hj).1
      obtain rfl : j = vs.length := by simp at hj2; omega
      rw [List.getElem?_append_right (Nat.le_refl _), Nat.sub_self] at hj
      have := Option.some.inj hj
      simp only [Prod.mk.injEq] at this
      exact .inr ⟨rfl, this.1.symm, this.2.symm⟩
  refine h.join c1 (fun k hk => .inr (.inl (List.mem_append_left _ hk))) ⟨?_, fun j v' xs' hj => ?_, fun i j v1 xs1 v2 xs2 g hij hi hj h1 h2 => ?_, fun j v' xs' g hj h1 h2 => ?_⟩ (fun k hk => ?_)
  · simpa using ol
  · rcases lst j v' xs' hj with ⟨q, _⟩ | ⟨_, rfl, rfl⟩
    · exact (hr.row j v' xs' q).chg c1 (fun k hk hm => hr.list j v' xs' k q hk (by simpa using hm))
    · exact hv.chg c1 (fun k hk hm => hoff k hk (List.mem_append_left _ hm))
  · rcases lst i v1 xs1 hi with ⟨q, _⟩ | ⟨qi, rfl, rfl⟩
    · rcases lst j v2 xs2 hj with ⟨q2, _⟩ | ⟨qj, rfl, rfl⟩
      · exact hr.apart i j v1 xs1 v2 xs2 g hij q q2 h1 h2
      · exact hoff g h2 (List.mem_append_right _ (blocksOf_mem q h1))
    · rcases lst j v2 xs2 hj with ⟨q2, _⟩ | ⟨qj, _, _⟩
      · exact hoff g h1 (List.mem_append_right _ (blocksOf_mem q2 h2))
      · omega
  · rcases lst j v' xs' hj with ⟨q, _⟩ | ⟨_, rfl, rfl⟩
    · rcases lvn g h2 with q2 | q2
      · exact hr.list j v' xs' g q h1 q2
      · have := ((hr.row j v' xs' q).lt g h1).2
        omega
    · rcases lvn g h2 with q2 | q2
      · exact hoff g h1 (List.mem_append_left _ (by simp [q2]))
      · have := (hv.lt g h1).2
        omega
  · rcases List.mem_append.1 hk with hk | hk
    · rcases lvn k (by simpa using hk) with q | q
      · exact .inr (.inl (List.mem_append_left _ (by simp [q])))
      · exact .inr (.inr q)
    · rw [blocksOf_append] at hk
      rcases List.mem_append.1 hk with hk | hk
      · exact .inr (.inl (List.mem_append_right _ hk))
      · refine .inl ?_
        obtain ⟨j, v', xs', hj, hg⟩ := blocksOf_spec hk
        have : v' = v := by
          have := List.mem_of_getElem? hj
          simp at this
          exact this.1
        subst this
        rw [haF]
        simp [hg]

theorem RackW.owns {s : Nat} {w : World} {e le : TypeId} {g c : Nat} {vs : Wides} (h : RackW s w e le (.slice (some ⟨g, 0, none⟩) vs.length c) vs) (hg : g < w.heap.size) : OwnsW s w 0 e g vs :=
  ⟨fun j v xs hj => ownsRow_cellAt h.own (by rw [List.getElem?_map, hj]; rfl), h.row, h.apart, fun j v xs hj hk => h.list j v xs g hj hk rfl, hg⟩

end Go.Proofs.YtnkdgmnmmmjgjaaGreat
