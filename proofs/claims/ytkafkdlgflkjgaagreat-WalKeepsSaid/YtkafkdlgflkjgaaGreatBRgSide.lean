/-
  Rings and lists of spans, side by side in memory; 'known' of the ring. By an AI agent.
-/
import Derived.Test.YtkafkdlgflkjgaaGreatBRgLive
import Derived.Test.YtkafkdlgflkjgaaGreatBGOwnMem
import Derived.Laws.StructEq
namespace Go.Proofs.YtkafkdlgflkjgaaGreat
open Go.RowKit

/-- A ring at its block. -/
def ringT (R S t u : Nat) : Thing where
 F := [R]
 P := fun w => RingB w R S t u
 lt := fun w h k hk => by rw [List.mem_singleton.1 hk]; exact h.lt
 stays := fun w w' s h c hs => h.chg c (hs R (by simp))

/-- A list of spans, in memory of its own. -/
def spT (v : Value) (l : List (Nat × Nat)) : Thing where
 F := v.ownBlock.toList
 P := fun w => SpRow w 0 v l
 lt := fun w h k hk => (h.lt k (by simpa using hk)).2
 stays := fun w w' s h c hs => owns_chg h c (fun k hk => hs k (by rw [hk]; simp))

theorem SpRow.base {w : World} {b : Nat} {v : Value} {l : List (Nat × Nat)} (h : SpRow w b v l) : SpRow w 0 v l := ownsRow_base (B' := 0) h (Nat.zero_le _)

theorem SpRow.nil (w : World) (b : Nat) : SpRow w b (.slice none 0 0) [] := World.ownsRow_nil _ _ _ _

/-- A new ring. -/
theorem Side.ring {w0 w w' : World} {ts : List Thing} {S t u : Nat} (h : Side w0 w ts) (b : RingB w' w.heap.size S t u) (c : Chg [] w w') : Side w0 w' (ringT w.heap.size S t u :: ts) :=
 h.add c b (fun k hk => by rw [List.mem_singleton.1 hk]; exact Nat.le_refl _)

/-- A list more. -/
theorem Side.spans {w0 w w' : World} {ts : List Thing} {v : Value} {l : List (Nat × Nat)} (h : Side w0 w ts) (o : SpRow w' w.heap.size v l) (c : Chg [] w w') : Side w0 w' (spT v l :: ts) :=
 h.add c o.base (fun k hk => (o.lt k (by simpa [spT] using hk)).1)

theorem scells_at : ∀ (l : List (Nat × Nat)) (j : Nat) (p : Nat × Nat), l[j]? = some p → (scells l)[j * 2]? = some (.int .i64 (p.1 : Int)) ∧ (scells l)[j * 2 + 1]? = some (.int .i64 (p.2 : Int))
 | [], j, p, h => by simp at h
 | a :: l, 0, p, h => by
   obtain rfl : a = p := by simpa using h
   exact ⟨rfl, rfl⟩
 | a :: l, j + 1, p, h => by
   have := scells_at l j p (by simpa using h)
   have e : scells (a :: l) = .int .i64 (a.1 : Int) :: .int .i64 (a.2 : Int) :: scells l := rfl
   rw [e, show (j + 1) * 2 = j * 2 + 1 + 1 by omega]
   simpa using this

/-- How a list of spans reads. -/
theorem SpRow.slice {w : World} {b : Nat} {v : Value} {l : List (Nat × Nat)} (h : SpRow w b v l) : ∃ ao c, v = .slice ao l.length c := owns_slice h

theorem SpRow.at {w : World} {b n c : Nat} {ao : Option Addr} {l : List (Nat × Nat)} (h : SpRow w b (.slice ao n c) l) {j : Nat} {p : Nat × Nat} (hj : l[j]? = some p) :
 ∃ g, ao = some ⟨g, 0, none⟩ ∧ w.cell? ⟨g, j * 2, none⟩ = some (.int .i64 (p.1 : Int)) ∧ w.cell? ⟨g, j * 2 + 1, none⟩ = some (.int .i64 (p.2 : Int)) := by
 have hjl := (List.getElem?_eq_some_iff.1 hj).1
 rcases h.2 with ⟨h1, h2⟩ | ⟨g, cap, cur, hv, hb, hg, _⟩
 ·omega
 ·obtain ⟨rfl, _, rfl⟩ : ao = some ⟨g, 0, none⟩ ∧ n = l.length ∧ c = cap := by simpa using hv
  obtain ⟨q1, q2⟩ := scells_at l j p hj
  have c1 := World.ownsRow.cells h (g := g) rfl (j * 2) _ q1
  have c2 := World.ownsRow.cells h (g := g) rfl (j * 2 + 1) _ q2
  rw [Addr.add_lit] at c1 c2
  rw [Nat.zero_add] at c1 c2
  exact ⟨g, rfl, c1, c2⟩

end Go.Proofs.YtkafkdlgflkjgaaGreat
