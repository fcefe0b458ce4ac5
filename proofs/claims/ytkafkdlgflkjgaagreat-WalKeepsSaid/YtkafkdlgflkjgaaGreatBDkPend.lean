/-
  The program's disk: Pending. By an AI agent.
-/
import Derived.Test.YtkafkdlgflkjgaaGreatBDkRead
import Derived.Test.YtkafkdlgflkjgaaGreatBGInMore
namespace Go.Proofs.YtkafkdlgflkjgaaGreat
open Go.Maps Go.RowKit

theorem info_dwrite : (Tryz.prog.info? 295).map (fun i => (i.zero, i.size, i.bytes)) = some (some (.agg (#[.int .i64 0] ++ Array.replicate 128 (.int .u8 0))), 129, 136) := by kernel_rfl

theorem dwrite_size : (Tryz.prog.info? 295).map (·.size) = some 129 := by kernel_rfl

theorem dwrite_under : ∃ d, Tryz.prog.underlying 295 = some d ∧ d.isRow = true := ⟨_, Tryz.underlying295, rfl⟩

theorem blk_write0 (w : World) (t : TypeId) : Blk (w.alloc (.cells (Value.agg (#[Value.int .i64 0] ++ Array.replicate 128 (Value.int .u8 0))).cells t)) w.heap.size t (Value.int .i64 0 :: List.replicate 128 (Value.int .u8 0)) := by
 have := Blk.made w (Value.int .i64 0 :: List.replicate 128 (Value.int .u8 0)) t
 rw [show (Value.agg (#[Value.int .i64 0] ++ Array.replicate 128 (Value.int .u8 0))).cells = (Value.int .i64 0 :: List.replicate 128 (Value.int .u8 0)).toArray by simp [Value.cells]]
 exact this

/-- A write's cells. -/
def wcell (p : Nat × List Nat) : List Value := .int .i64 (p.1 : Int) :: bytesOf p.2

theorem wcell_len {p : Nat × List Nat} (h : p.2.length = 128) : (wcell p).length = 129 := by unfold wcell; rw [List.length_cons, bytesOf_length, h]

theorem wcell_one (p : Nat × List Nat) : ∀ v ∈ wcell p, v.oneCell' = true := by
 intro v hv
 rcases List.mem_cons.1 hv with rfl | hv
 ·rfl
 ·exact bytesOf_one _ v hv

theorem size_w {p : Nat × List Nat} (h : p.2.length = 128) : (Tryz.prog.info? 295).map (·.size) = some (wcell p).length := by
 rw [wcell_len h]
 exact dwrite_size

end Go.Proofs.YtkafkdlgflkjgaaGreat
