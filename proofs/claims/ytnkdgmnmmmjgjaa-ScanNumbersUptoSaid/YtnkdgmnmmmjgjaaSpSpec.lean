/-
  What a superblock is, in numbers, and its sector. No function of the program is named here. By an AI agent.
-/
import Derived.Test.YtnkdgmnmmmjgjaaGNats
import Derived.Test.YtnkdgmnmmmjgjaaCrcMath
namespace Go.Proofs.Ytnkdgmnmmmjgjaa
open Crc

/-- A superblock. -/
structure Sup where
  id : Nat
  ev : Nat
  safe : Nat
  role : Int
  m : Int
  c : Int
  t : Int
  ring : Int
  lazy : Bool
  lost : Bool
  st : List Int
  cur : Int

namespace Sup

/-- What its fields hold, whatever it is. -/
structure Fit (s : Sup) : Prop where
  id : s.id < 18446744073709551616
  ev : s.ev < 18446744073709551616
  safe : s.safe < 18446744073709551616
  role : -9223372036854775808 ≤ s.role ∧ s.role ≤ 9223372036854775807
  m : -9223372036854775808 ≤ s.m ∧ s.m ≤ 9223372036854775807
  c : -9223372036854775808 ≤ s.c ∧ s.c ≤ 9223372036854775807
  t : -9223372036854775808 ≤ s.t ∧ s.t ≤ 9223372036854775807
  ring : -9223372036854775808 ≤ s.ring ∧ s.ring ≤ 9223372036854775807
  cur : -9223372036854775808 ≤ s.cur ∧ s.cur ≤ 9223372036854775807
  st : By s.st

/-- How many are being rebuilt. -/
def many (st : List Int) : Nat := st.countP (· == 3)

def numbers (s : Sup) : Prop := 3 ≤ s.m ∧ s.m ≤ 16 ∧ 1 ≤ s.c ∧ s.c ≤ 16 ∧ 1 ≤ s.t ∧ s.t ≤ 256

def counts (s : Sup) : Prop := 1 ≤ s.ev ∧ s.ev ≤ 4611686018427387904 ∧ 1 ≤ s.safe ∧ s.safe ≤ s.ev ∧ 0 ≤ s.role ∧ s.role ≤ s.m ∧ 5 ≤ s.ring ∧ s.ring ≤ 2048 ∧ (s.st.length : Int) = s.m

def states (s : Sup) : Prop := ∀ x ∈ s.st, 1 ≤ x ∧ x ≤ 3

def done (s : Sup) : Prop := many s.st ≤ 1 ∧ 0 ≤ s.cur ∧ s.cur < s.t ∧ (many s.st = 0 → s.cur = 0)

/-- It is valid. -/
def Ok (s : Sup) : Prop := s.numbers ∧ s.counts ∧ s.states ∧ s.done

instance (s : Sup) : Decidable s.Ok := by unfold Ok numbers counts states done; infer_instance

/-- Two are of one array. -/
def akin (a b : Sup) : Bool := a.id == b.id && (a.m == b.m && a.c == b.c && a.t == b.t) && a.ring == b.ring && a.lazy == b.lazy

theorem akin_self (a : Sup) : a.akin a = true := by simp [akin]
theorem akin_comm (a b : Sup) : a.akin b = b.akin a := by
  unfold akin
  rw [Bool.eq_iff_iff]
  simp only [Bool.and_eq_true, beq_iff_eq]
  constructor <;> (rintro ⟨⟨⟨h1, ⟨h2, h3⟩, h4⟩, h5⟩, h6⟩; exact ⟨⟨⟨h1.symm, ⟨h2.symm, h3.symm⟩, h4.symm⟩, h5.symm⟩, h6.symm⟩)
theorem akin_trans {a b c : Sup} (h1 : a.akin b = true) : b.akin c = a.akin c := by
  unfold akin at *
  simp only [Bool.and_eq_true, beq_iff_eq] at h1
  obtain ⟨⟨⟨h1, ⟨h2, h3⟩, h4⟩, h5⟩, h6⟩ := h1
  rw [h1, h2, h3, h4, h5, h6]

end Sup

/-- The n lowest bytes of a number, the lowest first. -/
def low : Nat → Nat → List Nat
  | 0, _ => []
  | n + 1, v => v % 256 :: low n (v / 256)

theorem low_length : ∀ n v, (low n v).length = n
  | 0, _ => rfl
  | n + 1, v => by simp [low, low_length n]

theorem low_bs : ∀ n v, Bs (low n v)
  | 0, _ => by intro b hb; cases hb
  | n + 1, v => by
    intro b hb
    rcases List.mem_cons.1 hb with rfl | hb
    · exact Nat.mod_lt _ (by decide)
    · exact low_bs n _ b hb

theorem low_snoc : ∀ n v, low (n + 1) v = low n v ++ [v / 256 ^ n % 256]
  | 0, v => by simp [low]
  | n + 1, v => by
    rw [low, low_snoc n (v / 256), low]
    simp only [List.cons_append, List.cons.injEq, true_and]
    congr 2
    rw [Nat.div_div_eq_div_mul, Nat.pow_succ, Nat.mul_comm]

namespace Sup

def flags (s : Sup) : Nat := (if s.lazy then 1 else 0) + (if s.lost then 2 else 0)

/-- The bytes ahead of the states. -/
def head (s : Sup) : List Nat :=
  [83, 80, 83, 66, 1, 0, 0, 0] ++ low 8 s.id ++ low 8 s.ev ++ low 8 s.safe ++ [s.role.toNat % 256, s.m.toNat % 256, s.c.toNat % 256, s.flags] ++ low 2 s.t.toNat ++ low 2 s.ring.toNat ++ low 4 s.cur.toNat

/-- The bytes that the checksum is of. -/
def body (s : Sup) : List Nat := s.head ++ nats s.st ++ List.replicate (80 - s.st.length) 0

/-- The sector. -/
def sector (s : Sup) : List Nat := s.body ++ low 4 (sum s.body)

theorem head_length (s : Sup) : s.head.length = 44 := by simp [head, low_length]

theorem body_length {s : Sup} (h : s.st.length ≤ 80) : s.body.length = 124 := by
  simp [body, head_length, nats_length]
  omega

theorem sector_length {s : Sup} (h : s.st.length ≤ 80) : s.sector.length = 128 := by
  rw [sector, List.length_append, body_length h, low_length]

end Sup
end Go.Proofs.Ytnkdgmnmmmjgjaa
