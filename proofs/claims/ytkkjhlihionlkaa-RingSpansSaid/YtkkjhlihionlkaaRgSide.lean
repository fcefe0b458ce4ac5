/-
  Rings and lists of spans, side by side in memory; 'known' of the ring. By an AI agent.
-/
import Derived.Test.YtkkjhlihionlkaaRgGive
import Derived.Test.YtkkjhlihionlkaaGSide
import Derived.Laws.StructEq
namespace Go.Proofs.Ytkkjhlihionlkaa
open Go.RowKit

/-- A ring at its block. -/
def ringT (R S t u : Nat) : Thing where
  F := [R]
  P := fun w => RingB w R S t u
  lt := fun w h k hk => by rw [List.mem_singleton.1 hk]; exact h.lt
  stays := fun w w' s h c hs => h.chg c (hs R (by simp))

/-- A list of spans, in memory of its own. -/
def spT (v : Value) (l : List (Nat × Nat)) : Thing where
  F := v.ownBlock.toList
  P := fun w => SpRow w 0 v l
  lt := fun w h k hk => (h.lt k (by simpa using hk)).2
  stays := fun w w' s h c hs => owns_chg h c (fun k hk => hs k (by rw [hk]; simp))

theorem SpRow.base {w : World} {b : Nat} {v : Value} {l : List (Nat × Nat)} (h : SpRow w b v l) : SpRow w 0 v l := ownsRow_base (B' := 0) h (Nat.zero_le _)

theorem SpRow.nil (w : World) (b : Nat) : SpRow w b (.slice none 0 0) [] := World.ownsRow_nil _ _ _ _

/-- A new ring. -/
theorem Side.ring {w0 w w' : World} {ts : List Thing} {S t u : Nat} (h : Side w0 w ts) (b : RingB w' w.heap.size S t u) (c : Chg [] w w') : Side w0 w' (ringT w.heap.size S t u :: ts) :=
  h.add c b (fun k hk => by rw [List.mem_singleton.1 hk]; exact Nat.le_refl _)

/-- A list more. -/
theorem Side.spans {w0 w w' : World} {ts : List Thing} {v : Value} {l : List (Nat × Nat)} (h : Side w0 w ts) (o : SpRow w' w.heap.size v l) (c : Chg [] w w') : Side w0 w' (spT v l :: ts) :=
  h.add c o.base (fun k hk => (o.lt k (by simpa [spT] using hk)).1)

/-- A list more, and the i-th, a ring, has turned. -/
theorem Side.took {w0 w w' : World} {ts : List Thing} {R S t u S' t' u' : Nat} {v : Value} {l : List (Nat × Nat)} (h : Side w0 w ts) (i : Nat) (hi : ts[i]? = some (ringT R S t u))
    (o : SpRow w' w.heap.size v l) (b : RingB w' R S' t' u') (c : Chg [R] w w') : Side w0 w' (spT v l :: ts.set i (ringT R S' t' u')) := by
  have h1 := h.front i
  rw [front_some hi] at h1
  have hR : R < w.heap.size := (h.get i hi : RingB w R S t u).lt
  have h2 : Side w0 w' ([spT v l, ringT R S' t' u'] ++ ts.eraseIdx i) := Side.swap (olds := [ringT R S t u]) (bs := [spT v l, ringT R S' t' u']) h1 c
    (fun k hk => .inl ⟨_, List.mem_singleton.2 rfl, hk⟩)
    (fun x hx => by
      rcases List.mem_cons.1 hx with rfl | hx
      · exact o.base
      · rw [List.mem_singleton.1 hx]; exact b)
    (fun x hx k hk => by
      rcases List.mem_cons.1 hx with rfl | hx
      · exact .inr (o.lt k (by simpa [spT] using hk)).1
      · rw [List.mem_singleton.1 hx] at hk
        exact .inl ⟨_, List.mem_singleton.2 rfl, hk⟩)
    (List.pairwise_cons.2 ⟨fun x hx k hk hm => by
      rw [List.mem_singleton.1 hx] at hm
      have h1 := (o.lt k (by simpa [spT] using hk)).1
      rw [List.mem_singleton.1 hm] at h1
      omega, List.pairwise_singleton _ _⟩)
  refine h2.perm ?_
  exact List.Perm.cons _ (set_perm ts i (ringT R S' t' u') (List.getElem?_eq_some_iff.1 hi).1).symm

theorem scells_at : ∀ (l : List (Nat × Nat)) (j : Nat) (p : Nat × Nat), l[j]? = some p → (scells l)[j * 2]? = some (.int .i64 (p.1 : Int)) ∧ (scells l)[j * 2 + 1]? = some (.int .i64 (p.2 : Int))
  | [], j, p, h => by simp at h
  | a :: l, 0, p, h => by
    obtain rfl : a = p := by simpa using h
    exact ⟨rfl, rfl⟩
  | a :: l, j + 1, p, h => by
    have := scells_at l j p (by simpa using h)
    have e : scells (a :: l) = .int .i64 (a.1 : Int) :: .int .i64 (a.2 : Int) :: scells l := rfl
    rw [e, show (j + 1) * 2 = j * 2 + 1 + 1 by omega]
    simpa using this

/-- How a list of spans reads. -/
theorem SpRow.slice {w : World} {b : Nat} {v : Value} {l : List (Nat × Nat)} (h : SpRow w b v l) : ∃ ao c, v = .slice ao l.length c := owns_slice h

theorem SpRow.at {w : World} {b n c : Nat} {ao : Option Addr} {l : List (Nat × Nat)} (h : SpRow w b (.slice ao n c) l) {j : Nat} {p : Nat × Nat} (hj : l[j]? = some p) :
    ∃ g, ao = some ⟨g, 0, none⟩ ∧ w.cell? ⟨g, j * 2, none⟩ = some (.int .i64 (p.1 : Int)) ∧ w.cell? ⟨g, j * 2 + 1, none⟩ = some (.int .i64 (p.2 : Int)) := by
  have hjl := (List.getElem?_eq_some_iff.1 hj).1
  rcases h.2 with ⟨h1, h2⟩ | ⟨g, cap, cur, hv, hb, hg, _⟩
  · omega
  · obtain ⟨rfl, _, rfl⟩ : ao = some ⟨g, 0, none⟩ ∧ n = l.length ∧ c = cap := by simpa using hv
    obtain ⟨q1, q2⟩ := scells_at l j p hj
    have c1 := World.ownsRow.cells h (g := g) rfl (j * 2) _ q1
    have c2 := World.ownsRow.cells h (g := g) rfl (j * 2 + 1) _ q2
    rw [Addr.add_lit] at c1 c2
    rw [Nat.zero_add] at c1 c2
    exact ⟨g, rfl, c1, c2⟩

theorem eql_span (a b c d : Int) (w : World) : (binOp .eql 61 (.agg #[.int .i64 a, .int .i64 b]) (.agg #[.int .i64 c, .int .i64 d])).run Try.prog w = .ok (.bool (decide (a = c ∧ b = d))) w := by
  by_cases h0 : a = c
  case neg =>
    have e0 : (a == c) = false := by simpa using h0
    rw [decide_eq_false (fun k => h0 k.1)]
    go_simp
  subst h0
  by_cases h1 : b = d
  case neg =>
    have e1 : (b == d) = false := by simpa using h1
    rw [decide_eq_false (fun k => h1 k.2)]
    go_simp
  subst h1
  rw [decide_eq_true ⟨rfl, rfl⟩]
  go_simp

theorem neq_span (a b c d : Int) (w : World) : (binOp .neq 61 (.agg #[.int .i64 a, .int .i64 b]) (.agg #[.int .i64 c, .int .i64 d])).run Try.prog w = .ok (.bool (!decide (a = c ∧ b = d))) w := by
  by_cases h0 : a = c
  case neg =>
    have e0 : (a == c) = false := by simpa using h0
    rw [decide_eq_false (fun k => h0 k.1)]
    go_simp
  subst h0
  by_cases h1 : b = d
  case neg =>
    have e1 : (b == d) = false := by simpa using h1
    rw [decide_eq_false (fun k => h1 k.2)]
    go_simp
  subst h1
  rw [decide_eq_true ⟨rfl, rfl⟩]
  go_simp

end Go.Proofs.Ytkkjhlihionlkaa
