/-
  Two lists of ints that are the same. By an AI agent.
-/
import Derived.Test.YtheplbjlfkjncaaGSame
import Derived.Test.YtheplbjlfkjncaaGOwnMem
namespace Go.Proofs.Ytheplbjlfkjncaa
open Go.RowKit

set_option maxHeartbeats 400000 in
theorem same_ints (va vb : Value) (xs : List Int) (w : World) (ha : RdV w va (xs.map (Value.int .i64))) (hb : RdV w vb (xs.map (Value.int .i64))) (hbig : xs.length ≤ 140737488355328) :
    Calls Try.prog 22 #[va, vb] w fun e w' => e = .returned (.bool true) ∧ ∃ q, w' = w.drewN q := by
  obtain ⟨ao, ac, rfl⟩ := ha.slice
  obtain ⟨bo, bc, rfl⟩ := hb.slice
  rw [List.length_map] at ha hb ⊢
  have HA := Lib.hid ha
  have HB := Lib.hid hb
  clear ha hb
  go_enter Try.func22, Try.ntmps22
  go_wp2
  go_loopw [5] (fun i wr => ∃ k : Nat, k ≤ xs.length ∧ i = .int .i64 k ∧ ∃ q, wr = w.drewN q) (fun i _ => xs.length - (intOf i).toNat)
  case atStart => exact ⟨0, Nat.zero_le _, rfl, 0, rfl⟩
  case round =>
    obtain ⟨k, hk, rfl, q, rfl⟩ := hrel
    by_cases hlt : k < xs.length
    · have hx : (xs.map (Value.int .i64))[k]? = some (.int .i64 (xs.getD k 0)) := by simp [List.getD, List.getElem?_eq_getElem hlt]
      obtain ⟨g, o, rfl, c1⟩ := HA.out.at hx
      obtain ⟨g2, o2, rfl, c2⟩ := HB.out.at hx
      generalize xs.getD k 0 = x at *
      clear hx
      have hi0 : (0 : Int) ≤ k := Int.natCast_nonneg _
      have hi1 : (k : Int) < xs.length := by omega
      go_wp2_with fail
      go_quiet (fail)
      go_wp2
      exact ⟨⟨k + 1, by omega, by go_num, _, rfl⟩, by simp [intOf]; omega⟩
    · go_wp2
      go_ret
      exact ⟨rfl, _, rfl⟩

end Go.Proofs.Ytheplbjlfkjncaa
