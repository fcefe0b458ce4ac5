/-
  The content of a sector. By an AI agent.
-/
import Derived.Test.YtffpjefecmkfmaaBSpPack
namespace Go.Proofs.Ytffpjefecmkfmaa
open Go.RowKit

/-- A content of noughts. -/
def zeroC : List Value := [.int .u64 0, .int .u64 0, .int .u64 0, .int .i64 0, .int .i64 0, .int .i64 0, .int .i64 0, .int .i64 0, .bool false, .bool false, .slice none 0 0, .int .i64 0, .int .u64 0, .int .u8 0,
  .int .u8 0, .int .u8 0, .int .u8 0, .int .u8 0, .int .u8 0, .int .u8 0, .int .u8 0, .int .u8 0, .int .u8 0, .int .u8 0, .int .u8 0, .int .u8 0, .int .u8 0, .int .u8 0, .int .u8 0, .int .u8 0, .int .u32 0]

/-- What has been read by the first k fields. -/
def unpackAt (xs : List Int) (k : Nat) : List Value := (List.range k).foldl (fun cs i => match fieldsAll[i]? with
  | some d => d.into cs ((xs.drop (wide i)).take d.n)
  | none => cs) zeroC

def unpacked (xs : List Int) : List Value := unpackAt xs 30

theorem size_content : (Try.prog.info? 73).map (·.size) = some 31 := by kernel_rfl

end Go.Proofs.Ytffpjefecmkfmaa
