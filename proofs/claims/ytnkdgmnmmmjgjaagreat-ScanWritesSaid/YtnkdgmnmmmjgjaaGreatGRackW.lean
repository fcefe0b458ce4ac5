/-
  A book of lists of values of several cells: its rack stands beside its own block. No function of the program is named here. By an AI agent.
-/
import Derived.Test.YtnkdgmnmmmjgjaaGreatGSide
import Derived.Test.YtnkdgmnmmmjgjaaGreatGWide
namespace Go.Proofs.YtnkdgmnmmmjgjaaGreat
open Go.RowKit

/-- A list of lists that came out, each in memory of its own. -/
structure RackW (s : Nat) (w : World) (e le : TypeId) (lv : Value) (vs : Wides) : Prop where
  own : w.ownsRow 0 le 1 lv vs.length (vs.map (·.1))
  row : ∀ (j : Nat) (v : Value) (xs : List (List Value)), vs[j]? = some (v, xs) → OwnW s w 0 e v xs
  apart : ∀ (i j : Nat) (v : Value) (xs : List (List Value)) (v' : Value) (xs' : List (List Value)) (g : Nat), i ≠ j → vs[i]? = some (v, xs) → vs[j]? = some (v', xs') → v.ownBlock = some g → v'.ownBlock ≠ some g
  list : ∀ (j : Nat) (v : Value) (xs : List (List Value)) (g : Nat), vs[j]? = some (v, xs) → v.ownBlock = some g → lv.ownBlock ≠ some g

def rackWT (s : Nat) (e le : TypeId) (lv : Value) (vs : Wides) : Thing where
  F := lv.ownBlock.toList ++ blocksOf vs
  P := fun w => RackW s w e le lv vs
  lt := fun w h k hk => by
    rcases List.mem_append.1 hk with hk | hk
    · exact (h.own.lt k (by simpa using hk)).2
    · obtain ⟨j, v, xs, hj, hg⟩ := blocksOf_spec hk
      exact ((h.row j v xs hj).lt k hg).2
  stays := fun w w' t h c hs => ⟨owns_chg h.own c (fun k hk => hs k (List.mem_append_left _ (by simp [hk]))), fun j v xs hj => (h.row j v xs hj).chg c (fun k hk => hs k (List.mem_append_right _ (blocksOf_mem hj hk))), h.apart, h.list⟩

theorem RackW.nil (s : Nat) (w : World) (e le : TypeId) : RackW s w e le (.slice none 0 0) [] := ⟨World.ownsRow_nil _ _ _ _, fun j v xs hj => by simp at hj, fun i j v xs v' xs' g _ hi => by simp at hi, fun j v xs g hj => by simp at hj⟩

theorem blocksOf_append (a b : Wides) : blocksOf (a ++ b) = blocksOf a ++ blocksOf b := by simp [blocksOf]

/-- One list more in the rack: behind the append. -/
theorem Side.shelveW {w0 w wn : World} {a : Thing} {ts : List Thing} {s : Nat} {e le : TypeId} {lv lv' v : Value} {vs : Wides} {xs : List (List Value)} {x : Obj} (h : Side w0 w (a :: rackWT s e le lv vs :: ts))
    (haF : a.F = v.ownBlock.toList) (hv : OwnW s w 0 e v xs)
    (ol : wn.ownsRow 0 le 1 lv' (vs.length + 1) (vs.map (·.1) ++ [v])) (gr : (w.alloc x).grownBy wn lv.ownBlock) (nb : lv'.ownBlock = lv.ownBlock ∨ (lv'.ownBlock = some (w.heap.size + 1) ∧ (w.alloc x).grownBy wn none)) :
    Side w0 wn (rackWT s e le lv' (vs ++ [(v, xs)]) :: ts) := by
  have hr : RackW s w e le lv vs := h.get 1 rfl
  have hoff : ∀ k, v.ownBlock = some k → k ∉ lv.ownBlock.toList ++ blocksOf vs := fun k hk hm => (List.pairwise_cons.1 h.apart).1 _ List.mem_cons_self k (by rw [haF]; simp [hk]) hm
  have c1 : Chg lv.ownBlock.toList w wn := (((Chg.refl [] w).alloc x).mono (by simp)).grown gr (fun k hk => .inl (by rw [hk]; simp))
  have lvn : ∀ k, lv'.ownBlock = some k → lv.ownBlock = some k ∨ w.heap.size ≤ k := fun k hk => by
    rcases nb with q | ⟨q, _⟩
    · rw [q] at hk; exact .inl hk
    · rw [q] at hk; simp at hk; exact .inr (by omega)
  have lst : ∀ (j : Nat) (v' : Value) (xs' : List (List Value)), (vs ++ [(v, xs)])[j]? = some (v', xs') → (vs[j]? = some (v', xs') ∧ j < vs.length) ∨ (j = vs.length ∧ v' = v ∧ xs' = xs) := fun j v' xs' hj => by
    by_cases hjl : j < vs.length
    · rw [List.getElem?_append_left hjl] at hj; exact .inl ⟨hj, hjl⟩
    · have hj2 : j < (vs ++ [(v, xs)]).length := (List.getElem?_eq_some_iff.1 hj).1
      obtain rfl : j = vs.length := by simp at hj2; omega
      rw [List.getElem?_append_right (Nat.le_refl _), Nat.sub_self] at hj
      have := Option.some.inj hj
      simp only [Prod.mk.injEq] at this
      exact .inr ⟨rfl, this.1.symm, this.2.symm⟩
  refine h.join c1 (fun k hk => .inr (.inl (List.mem_append_left _ hk))) ⟨?_, fun j v' xs' hj => ?_, fun i j v1 xs1 v2 xs2 g hij hi hj h1 h2 => ?_, fun j v' xs' g hj h1 h2 => ?_⟩ (fun k hk => ?_)
  · simpa using ol
  · rcases lst j v' xs' hj with ⟨q, _⟩ | ⟨_, rfl, rfl⟩
    · exact (hr.row j v' xs' q).chg c1 (fun k hk hm => hr.list j v' xs' k q hk (by simpa using hm))
    · exact hv.chg c1 (fun k hk hm => hoff k hk (List.mem_append_left _ hm))
  · rcases lst i v1 xs1 hi with ⟨q, _⟩ | ⟨qi, rfl, rfl⟩
    · rcases lst j v2 xs2 hj with ⟨q2, _⟩ | ⟨qj, rfl, rfl⟩
      · exact hr.apart i j v1 xs1 v2 xs2 g hij q q2 h1 h2
      · exact hoff g h2 (List.mem_append_right _ (blocksOf_mem q h1))
    · rcases lst j v2 xs2 hj with ⟨q2, _⟩ | ⟨qj, _, _⟩
      · exact hoff g h1 (List.mem_append_right _ (blocksOf_mem q2 h2))
      · omega
  · rcases lst j v' xs' hj with ⟨q, _⟩ | ⟨_, rfl, rfl⟩
    · rcases lvn g h2 with q2 | q2
      · exact hr.list j v' xs' g q h1 q2
      · have := ((hr.row j v' xs' q).lt g h1).2
        omega
    · rcases lvn g h2 with q2 | q2
      · exact hoff g h1 (List.mem_append_left _ (by simp [q2]))
      · have := (hv.lt g h1).2
        omega
  · rcases List.mem_append.1 hk with hk | hk
    · rcases lvn k (by simpa using hk) with q | q
      · exact .inr (.inl (List.mem_append_left _ (by simp [q])))
      · exact .inr (.inr q)
    · rw [blocksOf_append] at hk
      rcases List.mem_append.1 hk with hk | hk
      · exact .inr (.inl (List.mem_append_right _ hk))
      · refine .inl ?_
        obtain ⟨j, v', xs', hj, hg⟩ := blocksOf_spec hk
        have : v' = v := by
          have := List.mem_of_getElem? hj
          simp at this
          exact this.1
        subst this
        rw [haF]
        simp [hg]

theorem RackW.owns {s : Nat} {w : World} {e le : TypeId} {g c : Nat} {vs : Wides} (h : RackW s w e le (.slice (some ⟨g, 0, none⟩) vs.length c) vs) (hg : g < w.heap.size) : OwnsW s w 0 e g vs :=
  ⟨fun j v xs hj => ownsRow_cellAt h.own (by rw [List.getElem?_map, hj]; rfl), h.row, h.apart, fun j v xs hj hk => h.list j v xs g hj hk rfl, hg⟩

end Go.Proofs.YtnkdgmnmmmjgjaaGreat
