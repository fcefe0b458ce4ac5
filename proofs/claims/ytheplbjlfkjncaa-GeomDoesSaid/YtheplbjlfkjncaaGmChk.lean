/-
  The program's layout of blocks: a geometry that was checked. By an AI agent.
-/
import Derived.Test.YtheplbjlfkjncaaRefGeom2
import Derived.Laws.ResultCell
namespace Go.Proofs.Ytheplbjlfkjncaa
open Go.RowKit

theorem info_layout : (Try.prog.info? 72).map (·.size) = some 3 := by kernel_rfl

/-- A result that is a struct's cell, and another one. -/
theorem cell_and_tmp {fn : Func} {p u : Tmp} {ty : TypeId} {P : Program} (h : fn.results = #[.cell p ty, .tmp u]) (tmps : Array Value) (w : World) (g : Nat) (t : TypeId) (cs : Array Value) (fr : Nat × Nat) (fs)
    (hp : tmps.getD p undef = .pointer (some ⟨g, 0, none⟩)) (hg : w.heap[g]? = some (.cells cs t fr))
    (hu : P.underlying ty = some (.struct fs)) (hi : (P.info? ty).map (·.size) = some cs.size) :
    (results fn tmps).run P w = .ok (.tuple #[.agg cs, tmps.getD u undef]) w := by
  rw [results_cell_tmp h, hp]
  have e1 : (asAddr (.pointer (some ⟨g, 0, none⟩))).run P w = .ok ⟨g, 0, none⟩ w := rfl
  rw [e1]
  have e2 := run_loadVar_row w g t ty cs fr _ hg hu rfl hi
  simp only [Result.andThen]
  rw [e2]

set_option maxHeartbeats 1000000 in
set_option maxRecDepth 100000 in
theorem gchecked_good (m c t : Int) (w : World) (h : Gm.valid m c t) : Calls Try.prog 26 #[.agg #[.int .i64 m, .int .i64 c, .int .i64 t]] w (Says w (.tuple #[.agg #[.int .i64 m, .int .i64 c, .int .i64 t], .int .u16 0])) := by
  obtain ⟨h1, h2, h3, h4, h5, h6⟩ := h
  go_enter Try.func26, Try.ntmps26
  go_wp2_with fail
  refine bodyPost_ret (cell_and_tmp rfl _ _ (w.heap.size + 1) _ _ _ _ rfl (heap_alloc2_new _ _ _) Try.underlying72 info_layout) rfl ?_
  exact ⟨rfl, ((Chg.refl _ w).alloc _).alloc _⟩

set_option maxHeartbeats 1000000 in
set_option maxRecDepth 100000 in
theorem gchecked_bad (m c t : Int) (w : World) (h : ¬ Gm.valid m c t) : Calls Try.prog 26 #[.agg #[.int .i64 m, .int .i64 c, .int .i64 t]] w (Says w (.tuple #[.agg #[.int .i64 0, .int .i64 0, .int .i64 0], .int .u16 60])) := by
  have M : (3 ≤ m ∧ m ≤ 16) ∨ m < 3 ∨ (3 ≤ m ∧ ¬ m ≤ 16) := by omega
  have C : (1 ≤ c ∧ c ≤ 16) ∨ c < 1 ∨ (1 ≤ c ∧ ¬ c ≤ 16) := by omega
  have T : (1 ≤ t ∧ t ≤ 256) ∨ t < 1 ∨ (1 ≤ t ∧ ¬ t ≤ 256) := by omega
  rcases M with M | M | M <;> rcases C with C | C | C <;> rcases T with T | T | T
  · exact absurd ⟨M.1, M.2, C.1, C.2, T.1, T.2⟩ h
  all_goals
    first | obtain ⟨M, M'⟩ := M | replace M := id M
    first | obtain ⟨C, C'⟩ := C | replace C := id C
    first | obtain ⟨T, T'⟩ := T | replace T := id T
    clear h
    go_enter Try.func26, Try.ntmps26
    go_wp2_with fail
    refine bodyPost_ret (cell_and_tmp rfl _ _ (w.heap.size + 1) _ _ _ _ rfl (heap_alloc2_new _ _ _) Try.underlying72 info_layout) rfl ?_
    exact ⟨rfl, ((Chg.refl _ w).alloc _).alloc _⟩

theorem outside_any (at_ n : Int) (b : Bool) (w : World) (h : b = true ↔ (at_ < 0 ∨ n ≤ at_)) : Calls Try.prog 27 #[.int .i64 at_, .int .i64 n] w fun e w' => e = .returned (.bool b) ∧ w' = w := by
  by_cases h1 : at_ < 0
  · have hb : b = true := h.2 (.inl h1)
    subst hb
    clear h
    go_enter Try.func27, Try.ntmps27
    go_wp2_with fail
    go_ret
    exact ⟨rfl, rfl⟩
  · by_cases h2 : n ≤ at_
    · have hb : b = true := h.2 (.inr h2)
      subst hb
      clear h
      go_enter Try.func27, Try.ntmps27
      go_wp2_with fail
      go_ret
      exact ⟨rfl, rfl⟩
    · have hb : b = false := by
        cases b
        · rfl
        · exact ((h.1 rfl).elim h1 h2).elim
      subst hb
      clear h
      go_enter Try.func27, Try.ntmps27
      go_wp2_with fail
      go_ret
      exact ⟨rfl, rfl⟩


end Go.Proofs.Ytheplbjlfkjncaa
