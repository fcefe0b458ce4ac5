/-
  Bits of numbers of 32 and 64 bits, and bytes as numbers: no function of the program is named here. By an AI agent.
-/
import Derived.Test.YtnkdgmnmmmjgjaaGNats
import Derived.Test.YtnkdgmnmmmjgjaaCrcMath
import Derived.Laws.BitsAllLaws
namespace Go.Proofs.Ytnkdgmnmmmjgjaa
open Go.RowKit
open Crc

theorem and_one (x : Nat) (h : x < 4294967296) : bits .and .u32 (x : Int) 1 = ((x % 2 : Nat) : Int) := by
  have := u32_and_nat x 1 h (by decide)
  rw [Nat.and_one_is_mod] at this
  exact this

theorem xor_poly (x : Nat) (h : x < 4294967296) : bits .xor .u32 (x : Int) 2197175160 = ((x ^^^ poly : Nat) : Int) := u32_xor_nat x poly h (by decide)

theorem not_u32 (x : Nat) (h : x < 4294967296) : bits .xor .u32 IntKind.u32.max (x : Int) = ((x ^^^ ones : Nat) : Int) := by
  have := u32_xor_nat ones x (by decide) h
  rw [Nat.xor_comm x]
  exact this

theorem u32_unsigned : IntKind.u32.signed = false := rfl

/-- A column's bit, as the code asks for it. -/
theorem bit_ask (n k : Nat) (hn : n < 4294967296) : bits .and .u32 ((n : Int) / 2 ^ k) 1 = if n.testBit k then 1 else 0 := by
  have e : ((n : Int) / 2 ^ k) = ((n / 2 ^ k : Nat) : Int) := by simp
  have hl : n / 2 ^ k < 4294967296 := Nat.lt_of_le_of_lt (Nat.div_le_self _ _) hn
  rw [e, and_one _ hl, Nat.testBit_eq_decide_div_mod_eq]
  rcases Nat.mod_two_eq_zero_or_one (n / 2 ^ k) with h | h <;> rw [h] <;> rfl

theorem times_lt {m : List Nat} (hm : ∀ i, m.getD i 0 < 4294967296) (n : Nat) : ∀ i, times m n i < 4294967296
  | 0 => by rw [times]; decide
  | i + 1 => by
    rw [times]
    refine Nat.xor_lt_two_pow (n := 32) (times_lt hm n i) ?_
    split
    · exact hm i
    · decide

theorem and_one64 (x : Nat) (h : x < 9223372036854775808) : bits .and .i64 (x : Int) 1 = ((x % 2 : Nat) : Int) := by
  show IntKind.i64.wrap ((BitVec.ofInt 64 (x : Int) &&& BitVec.ofInt 64 (1 : Int)).toNat : Int) = _
  have e1 : (BitVec.ofInt 64 (x : Int)).toNat = x := by rw [BitVec.ofInt_natCast, BitVec.toNat_ofNat]; exact Nat.mod_eq_of_lt (by omega)
  have e2 : (BitVec.ofInt 64 (1 : Int)).toNat = 1 := by decide
  rw [BitVec.toNat_and, e1, e2, Nat.and_one_is_mod]
  simp [IntKind.wrap, IntKind.bits, IntKind.signed]
  omega

end Go.Proofs.Ytnkdgmnmmmjgjaa
