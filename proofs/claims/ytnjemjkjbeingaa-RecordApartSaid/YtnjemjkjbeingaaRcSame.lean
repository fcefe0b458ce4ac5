/-
  SameBytes of two lists of bytes, whatever they have. By an AI agent.
-/
import Derived.Test.YtnjemjkjbeingaaGSameAny
import Derived.Test.YtnjemjkjbeingaaRcSpec
import Derived.Test.YtnjemjkjbeingaaGNats
namespace Go.Proofs.Ytnjemjkjbeingaa
open Go.RowKit Crc Lib

theorem ints_inj {a b : List Nat} (h : ints a = ints b) : a = b := by
  have := congrArg nats h
  rw [nats_ints, nats_ints] at this
  exact this

theorem ints_dec (a b : List Nat) : decide (ints a = ints b) = decide (a = b) := by
  refine decide_eq_decide.2 ⟨ints_inj, fun h => by rw [h]⟩

theorem sameB_any (va vb : Value) (a b : List Nat) (w : World) (ha : Sl w va (ints a)) (hb : Sl w vb (ints b)) (h1 : a.length ≤ 1000000) (h2 : b.length ≤ 1000000) :
    Calls Try.prog 16 #[va, vb] w fun e w' => e = .returned (.bool (decide (a = b))) ∧ Hid (Chg [] w w') := by
  refine (same_any va vb (ints a) (ints b) w ha hb (by rw [ints_length]; omega) (by rw [ints_length]; omega)).mono ?_
  rintro e w' ⟨rfl, q, rfl⟩
  rw [ints_dec]
  exact ⟨rfl, (Chg.refl _ _).drewN q⟩

end Go.Proofs.Ytnjemjkjbeingaa
