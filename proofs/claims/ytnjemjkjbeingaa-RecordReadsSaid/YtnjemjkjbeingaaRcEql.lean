/-
  Two headers, commits or checkpoints compared. By an AI agent. Printed by gen_rceql.py.
-/
import Derived.Test.YtnjemjkjbeingaaRcPDecs
import Derived.Laws.StructEq
namespace Go.Proofs.Ytnjemjkjbeingaa
open Go.RowKit Crc

theorem eql_header_same (x0 x1 x2 x3 x4 x5 x7 : Int) (x6 : Bool) (w : World) : (binOp .eql 25 (.agg #[.int .u64 x0, .int .u64 x1, .int .i64 x2, .int .i64 x3, .int .i64 x4, .int .i64 x5, .bool x6, .int .u32 x7]) (.agg #[.int .u64 x0, .int .u64 x1, .int .i64 x2, .int .i64 x3, .int .i64 x4, .int .i64 x5, .bool x6, .int .u32 x7])).run Try.prog w = .ok (.bool true) w := by
  go_simp

theorem neq_header_same (x0 x1 x2 x3 x4 x5 x7 : Int) (x6 : Bool) (w : World) : (binOp .neq 25 (.agg #[.int .u64 x0, .int .u64 x1, .int .i64 x2, .int .i64 x3, .int .i64 x4, .int .i64 x5, .bool x6, .int .u32 x7]) (.agg #[.int .u64 x0, .int .u64 x1, .int .i64 x2, .int .i64 x3, .int .i64 x4, .int .i64 x5, .bool x6, .int .u32 x7])).run Try.prog w = .ok (.bool false) w := by
  go_simp

set_option maxHeartbeats 1000000 in
theorem eql_header (x0 x1 x2 x3 x4 x5 x7 y0 y1 y2 y3 y4 y5 y7 : Int) (x6 y6 : Bool) (w : World) : (binOp .eql 25 (.agg #[.int .u64 x0, .int .u64 x1, .int .i64 x2, .int .i64 x3, .int .i64 x4, .int .i64 x5, .bool x6, .int .u32 x7]) (.agg #[.int .u64 y0, .int .u64 y1, .int .i64 y2, .int .i64 y3, .int .i64 y4, .int .i64 y5, .bool y6, .int .u32 y7])).run Try.prog w = .ok (.bool (decide (x0 = y0 ∧ x1 = y1 ∧ x2 = y2 ∧ x3 = y3 ∧ x4 = y4 ∧ x5 = y5 ∧ x6 = y6 ∧ x7 = y7))) w := by
  by_cases h0 : x0 = y0
  case neg =>
    have e0 : (x0 == y0) = false := by simpa using h0
    rw [decide_eq_false (fun k => h0 k.1)]
    go_simp
  subst h0
  by_cases h1 : x1 = y1
  case neg =>
    have e1 : (x1 == y1) = false := by simpa using h1
    rw [decide_eq_false (fun k => h1 k.2.1)]
    go_simp
  subst h1
  by_cases h2 : x2 = y2
  case neg =>
    have e2 : (x2 == y2) = false := by simpa using h2
    rw [decide_eq_false (fun k => h2 k.2.2.1)]
    go_simp
  subst h2
  by_cases h3 : x3 = y3
  case neg =>
    have e3 : (x3 == y3) = false := by simpa using h3
    rw [decide_eq_false (fun k => h3 k.2.2.2.1)]
    go_simp
  subst h3
  by_cases h4 : x4 = y4
  case neg =>
    have e4 : (x4 == y4) = false := by simpa using h4
    rw [decide_eq_false (fun k => h4 k.2.2.2.2.1)]
    go_simp
  subst h4
  by_cases h5 : x5 = y5
  case neg =>
    have e5 : (x5 == y5) = false := by simpa using h5
    rw [decide_eq_false (fun k => h5 k.2.2.2.2.2.1)]
    go_simp
  subst h5
  by_cases h6 : x6 = y6
  case neg =>
    have e6 : (x6 == y6) = false := by simpa using h6
    rw [decide_eq_false (fun k => h6 k.2.2.2.2.2.2.1)]
    go_simp
  subst h6
  by_cases h7 : x7 = y7
  case neg =>
    have e7 : (x7 == y7) = false := by simpa using h7
    rw [decide_eq_false (fun k => h7 k.2.2.2.2.2.2.2)]
    go_simp
  subst h7
  rw [decide_eq_true ⟨rfl, rfl, rfl, rfl, rfl, rfl, rfl, rfl⟩]
  go_simp

theorem eql_commit_same (x0 x1 x2 x3 : Int) (w : World) : (binOp .eql 27 (.agg #[.int .u64 x0, .int .u64 x1, .int .i64 x2, .int .u32 x3]) (.agg #[.int .u64 x0, .int .u64 x1, .int .i64 x2, .int .u32 x3])).run Try.prog w = .ok (.bool true) w := by
  go_simp

theorem neq_commit_same (x0 x1 x2 x3 : Int) (w : World) : (binOp .neq 27 (.agg #[.int .u64 x0, .int .u64 x1, .int .i64 x2, .int .u32 x3]) (.agg #[.int .u64 x0, .int .u64 x1, .int .i64 x2, .int .u32 x3])).run Try.prog w = .ok (.bool false) w := by
  go_simp

theorem eql_check_same (x0 x1 x2 : Int) (w : World) : (binOp .eql 29 (.agg #[.int .u64 x0, .int .u64 x1, .int .i64 x2]) (.agg #[.int .u64 x0, .int .u64 x1, .int .i64 x2])).run Try.prog w = .ok (.bool true) w := by
  go_simp

theorem neq_check_same (x0 x1 x2 : Int) (w : World) : (binOp .neq 29 (.agg #[.int .u64 x0, .int .u64 x1, .int .i64 x2]) (.agg #[.int .u64 x0, .int .u64 x1, .int .i64 x2])).run Try.prog w = .ok (.bool false) w := by
  go_simp

end Go.Proofs.Ytnjemjkjbeingaa