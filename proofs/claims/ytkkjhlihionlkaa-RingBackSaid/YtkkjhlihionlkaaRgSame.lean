/-
  Two lists of spans that are the same. By an AI agent.
-/
import Derived.Test.YtkkjhlihionlkaaRgSide
namespace Go.Proofs.Ytkkjhlihionlkaa
open Go.RowKit

set_option maxHeartbeats 1000000 in
set_option maxRecDepth 100000 in
theorem same_spans (va vb : Value) (l : List (Nat × Nat)) (w : World) (ha : SpRow w 0 va l) (hb : SpRow w 0 vb l) (hbig : l.length ≤ 1000000000) :
    Calls Try.prog 23 #[va, vb] w (Says w (.bool true)) := by
  obtain ⟨ao, ac, rfl⟩ := ha.slice
  obtain ⟨bo, bc, rfl⟩ := hb.slice
  have HA := Lib.hid ha
  have HB := Lib.hid hb
  clear ha hb
  go_enter Try.func23, Try.ntmps23
  go_wp2_with fail
  go_loopw [5] (fun i wr => ∃ k : Nat, k ≤ l.length ∧ i = .int .i64 k ∧ ∃ q, wr = w.drewN q) (fun i _ => l.length - (intOf i).toNat)
  case atStart => exact ⟨0, Nat.zero_le _, rfl, 0, rfl⟩
  case round =>
    obtain ⟨k, hk, rfl, q, rfl⟩ := hrel
    by_cases hlt : k < l.length
    · obtain ⟨⟨x, y⟩, hx⟩ : ∃ p, l[k]? = some p := ⟨_, List.getElem?_eq_getElem hlt⟩
      obtain ⟨g, rfl, c1, c2⟩ := HA.out.at hx
      obtain ⟨g2, rfl, d1, d2⟩ := HB.out.at hx
      dsimp only at c1 c2 d1 d2
      have nq := fun w' => neq_span (x : Int) (y : Int) (x : Int) (y : Int) w'
      simp only [and_self, decide_true, Bool.not_true] at nq
      clear hx
      have hi0 : (0 : Int) ≤ k := Int.natCast_nonneg _
      have hi1 : (k : Int) < l.length := by omega
      go_wp2_with fail
      go_quiet (fail)
      go_wp2_with fail
      exact ⟨⟨k + 1, by omega, by go_num, _, rfl⟩, by simp [intOf]; omega⟩
    · go_wp2_with fail
      go_ret
      exact ⟨rfl, (Chg.refl _ _).drewN _⟩

end Go.Proofs.Ytkkjhlihionlkaa
