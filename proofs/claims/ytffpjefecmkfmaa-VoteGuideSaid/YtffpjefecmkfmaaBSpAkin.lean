/-
  Akin, the program's and the document's. By an AI agent. Printed by gen_spakin.py.
-/
import Derived.Test.YtffpjefecmkfmaaBSpChk
import Derived.Laws.StructEq
namespace Go.Proofs.Ytffpjefecmkfmaa
open Go.RowKit

theorem geo_eq (m c t m' c' t' : Int) (w : World) : (binOp .eql 26 (.agg #[.int .i64 m, .int .i64 c, .int .i64 t]) (.agg #[.int .i64 m', .int .i64 c', .int .i64 t'])).run Try.prog w = .ok (.bool (m == m' && c == c' && t == t')) w := by
  by_cases h1 : m = m'
  · by_cases h2 : c = c'
    · by_cases h3 : t = t'
      · subst h1; subst h2; subst h3
        go_simp
      · have h3b : (t == t') = false := by simpa using h3
        subst h1; subst h2
        go_simp
    · have h2b : (c == c') = false := by simpa using h2
      subst h1
      go_simp
  · have h1b : (m == m') = false := by simpa using h1
    go_simp

set_option maxHeartbeats 4000000 in
set_option maxRecDepth 100000 in
theorem akin_any (a b : Sup) (u v : Value) (w : World) : Calls Try.prog 25 #[a.val u, b.val v] w fun e w' => e = .returned (.bool (a.akin b)) ∧ Hid (Chg [] w w') := by
  have GE := fun W => geo_eq a.m a.c a.t b.m b.c b.t W
  have KK : Hid (a.akin b = (((a.id : Int) == (b.id : Int)) && (a.m == b.m && a.c == b.c && a.t == b.t) && a.ring == b.ring && a.lazy == b.lazy)) := by
    show _ = _
    unfold Sup.akin
    congr 3
    rw [Bool.eq_iff_iff, beq_iff_eq, beq_iff_eq]
    omega
  have CC : Hid (Chg [] w ((w.alloc (.cells #[.int .u64 (a.id : Int), .int .u64 (a.ev : Int), .int .u64 (a.safe : Int), .int .i64 a.role, .int .i64 a.m, .int .i64 a.c, .int .i64 a.t, .int .i64 a.ring, .bool a.lazy, .bool a.lost, u, .int .i64 a.cur] 29)).alloc (.cells #[.int .u64 (b.id : Int), .int .u64 (b.ev : Int), .int .u64 (b.safe : Int), .int .i64 b.role, .int .i64 b.m, .int .i64 b.c, .int .i64 b.t, .int .i64 b.ring, .bool b.lazy, .bool b.lost, v, .int .i64 b.cur] 29))) := ((Chg.refl _ _).alloc _).alloc _
  obtain ⟨p1, h1⟩ : ∃ p, ((a.id : Int) == (b.id : Int)) = p := ⟨_, rfl⟩
  obtain ⟨p3, h3⟩ : ∃ p, (a.ring == b.ring) = p := ⟨_, rfl⟩
  generalize (a.m == b.m && a.c == b.c && a.t == b.t) = p2 at *
  rw [h1, h3] at KK
  unfold Sup.val
  generalize hk : a.akin b = k at *
  have hs : p1 = false ∨ (p1 = true ∧ p2 = false) ∨ (p1 = true ∧ p2 = true ∧ p3 = false) ∨ (p1 = true ∧ p2 = true ∧ p3 = true) := by cases p1 <;> cases p2 <;> cases p3 <;> simp
  rcases hs with rfl | ⟨rfl, rfl⟩ | ⟨rfl, rfl, rfl⟩ | ⟨rfl, rfl, rfl⟩
  all_goals (
    go_enter Try.func25, Try.ntmps25
    go_wp2_with fail
    go_ret
    exact ⟨by rw [KK.out]; simp, CC⟩)

end Go.Proofs.Ytffpjefecmkfmaa
