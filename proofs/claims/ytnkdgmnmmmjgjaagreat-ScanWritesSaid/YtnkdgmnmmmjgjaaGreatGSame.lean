/-
  Two lists of bytes that are the same: SameBytes says so. By an AI agent.
-/
import Derived.Test.YtnkdgmnmmmjgjaaGreatG
namespace Go.Proofs.YtnkdgmnmmmjgjaaGreat
open Go.RowKit

set_option maxHeartbeats 400000 in
theorem same_true (va vb : Value) (xs : List Int) (w : World) (ha : Sl w va xs) (hb : Sl w vb xs) (hbig : xs.length ≤ 140737488355328) :
    Calls Tryz.prog 33 #[va, vb] w fun e w' => e = .returned (.bool true) ∧ ∃ q, w' = w.drewN q := by
  obtain ⟨ao, ac, rfl⟩ := ha.slice
  obtain ⟨bo, bc, rfl⟩ := hb.slice
  have HA := Lib.hid ha
  have HB := Lib.hid hb
  clear ha hb
  go_enter Tryz.func33, Tryz.ntmps33
  go_wp2
  go_loopw [5] (fun i wr => ∃ k : Nat, k ≤ xs.length ∧ i = .int .i64 k ∧ ∃ q, wr = w.drewN q) (fun i _ => xs.length - (intOf i).toNat)
  case atStart => exact ⟨0, Nat.zero_le _, rfl, 0, rfl⟩
  case round =>
    obtain ⟨k, hk, rfl, q, rfl⟩ := hrel
    by_cases hlt : k < xs.length
    · have LA : ∃ g o, ao = some ⟨g, o, none⟩ ∧ w.cell? ⟨g, o + k, none⟩ = some (.int .u8 (xs.getD k 0)) := by
        rcases HA.out with ⟨rfl, _⟩ | ⟨g, o, c', hv, hb, hc⟩
        · simp at hlt
        · obtain ⟨rfl, rfl⟩ : ao = some ⟨g, o, none⟩ ∧ ac = c' := by simpa using hv
          exact ⟨g, o, rfl, hc k hlt⟩
      have LB : ∃ g o, bo = some ⟨g, o, none⟩ ∧ w.cell? ⟨g, o + k, none⟩ = some (.int .u8 (xs.getD k 0)) := by
        rcases HB.out with ⟨rfl, _⟩ | ⟨g, o, c', hv, hb, hc⟩
        · simp at hlt
        · obtain ⟨rfl, rfl⟩ : bo = some ⟨g, o, none⟩ ∧ bc = c' := by simpa using hv
          exact ⟨g, o, rfl, hc k hlt⟩
      obtain ⟨g, o, rfl, c1⟩ := LA
      obtain ⟨g2, o2, rfl, c2⟩ := LB
      generalize xs.getD k 0 = x at *
      have hi0 : (0 : Int) ≤ k := Int.natCast_nonneg _
      have hi1 : (k : Int) < xs.length := by omega
      go_wp2_with fail
      go_quiet (fail)
      go_wp2
      exact ⟨⟨k + 1, by omega, by go_num, _, rfl⟩, by simp [intOf]; omega⟩
    · go_wp2
      go_ret
      exact ⟨rfl, _, rfl⟩

end Go.Proofs.YtnkdgmnmmmjgjaaGreat
