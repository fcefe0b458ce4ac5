/-
  Numbers and their bytes. No function of the program is named here. By an AI agent.
-/
import Derived.Test.YtffpjefecmkfmaaBMem
import Derived.IntWalk
import Derived.Laws.BitsAllLaws
namespace Go.Proofs.Ytffpjefecmkfmaa
open Go.RowKit

theorem pow2_le {a b : Nat} (h : a ≤ b) : (2 : Int) ^ a ≤ 2 ^ b := by
  have := Nat.pow_le_pow_right (n := 2) (by decide) h
  exact_mod_cast this

/-- The number that bytes come to, the lowest first. -/
def leNum : List Int → Int
  | [] => 0
  | x :: r => x + 256 * leNum r

theorem leNum_snoc : ∀ (xs : List Int) (x : Int), leNum (xs ++ [x]) = leNum xs + 2 ^ (8 * xs.length) * x
  | [], x => by simp [leNum]
  | y :: r, x => by
    simp only [List.cons_append, leNum, leNum_snoc r x, List.length_cons]
    rw [show 8 * (r.length + 1) = 8 * r.length + 8 from by omega, Int.pow_add, Int.mul_add, ← Int.add_assoc]
    congr 1
    rw [← Int.mul_assoc]
    congr 1
    exact Int.mul_comm _ _

theorem leNum_range : ∀ (xs : List Int), By xs → 0 ≤ leNum xs ∧ leNum xs < 2 ^ (8 * xs.length)
  | [], _ => by simp [leNum]
  | y :: r, h => by
    have h1 := leNum_range r (fun x hx => h x (List.mem_cons_of_mem _ hx))
    have h2 := h y List.mem_cons_self
    rw [List.length_cons, show 8 * (r.length + 1) = 8 * r.length + 8 from by omega, Int.pow_add]
    simp only [leNum]
    have e : (2 : Int) ^ 8 = 256 := rfl
    rw [e]
    omega

theorem leNum_leBytes : ∀ (n : Nat) (v : Int), leNum (leBytes n v) = v % 2 ^ (8 * n)
  | 0, v => by simp [leBytes, leNum, Int.emod_one]
  | n + 1, v => by
    rw [leBytes, leNum, leNum_leBytes n, show 8 * (n + 1) = 8 + 8 * n from by omega, Int.pow_add]
    have e : (2 : Int) ^ 8 = 256 := rfl
    rw [e]
    have hp : (0 : Int) < 2 ^ (8 * n) := Int.pow_pos (by decide)
    have h1 := Int.emod_add_mul_ediv v 256
    have h2 := Int.emod_add_mul_ediv (v / 256) (2 ^ (8 * n))
    have h3 := Int.emod_nonneg (v / 256) (Int.ne_of_gt hp)
    have h4 := Int.emod_lt_of_pos (v / 256) hp
    have h5 : 0 ≤ v % 256 ∧ v % 256 < 256 := by omega
    have h6 : v = (v % 256 + 256 * (v / 256 % 2 ^ (8 * n))) + (256 * 2 ^ (8 * n)) * (v / 256 / 2 ^ (8 * n)) := by
      rw [Int.mul_assoc, Int.add_assoc, ← Int.mul_add, h2]
      omega
    generalize v / 256 % 2 ^ (8 * n) = a at *
    generalize v / 256 / 2 ^ (8 * n) = c at *
    generalize v % 256 = d at *
    rw [h6, Int.add_mul_emod_self_left]
    exact (Int.emod_eq_of_lt (by omega) (by omega)).symm

theorem or_byte (A x : Int) (k : Nat) (hk : k < 8) (h0 : 0 ≤ A) (h1 : A < 2 ^ (8 * k)) (hx0 : 0 ≤ x) (hx1 : x ≤ 255) :
    bits .or .u64 A (IntKind.u64.wrap (x * 2 ^ (8 * k))) = A + 2 ^ (8 * k) * x := by
  obtain ⟨a, rfl⟩ := Int.eq_ofNat_of_zero_le h0
  obtain ⟨y, rfl⟩ := Int.eq_ofNat_of_zero_le hx0
  have hp : (2 : Int) ^ (8 * k) = ((2 ^ (8 * k) : Nat) : Int) := by simp
  rw [hp] at h1 ⊢
  have hk2 : 2 ^ (8 * k) ≤ 2 ^ 56 := Nat.pow_le_pow_right (by decide) (by omega)
  have h56 : (2 : Nat) ^ 56 = 72057594037927936 := by decide
  rw [h56] at hk2
  have hlt : a < 2 ^ (8 * k) := by omega
  have hy : y ≤ 255 := by omega
  have hm : y * 2 ^ (8 * k) ≤ 255 * 72057594037927936 := Nat.mul_le_mul hy hk2
  rw [← Int.natCast_mul, IntWalk.u64_in _ ⟨by omega, by omega⟩, u64_or_nat a (y * 2 ^ (8 * k)) (by omega) (by omega), Nat.or_comm, Nat.mul_comm, ← Nat.two_pow_add_eq_or_of_lt hlt, Int.natCast_add, Int.natCast_mul]
  omega

end Go.Proofs.Ytffpjefecmkfmaa
