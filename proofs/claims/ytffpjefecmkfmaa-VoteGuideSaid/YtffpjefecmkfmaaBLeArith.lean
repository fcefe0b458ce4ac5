/-
  Numbers and their bytes. No function of the program is named here. By an AI agent.
-/
import Derived.Test.YtffpjefecmkfmaaBMem
import Derived.IntWalk
import Derived.Laws.BitsAllLaws
namespace Go.Proofs.Ytffpjefecmkfmaa
open Go.RowKit

theorem pow2_le {a b : Nat} (h : a ≤ b) : (2 : Int) ^ a ≤ 2 ^ b := by
  have := Nat.pow_le_pow_right (n := 2) (by decide) h
  exact_mod_cast this

/-- The number that bytes come to, the lowest first. -/
def leNum : List Int → Int
  | [] => 0
  | x :: r => x + 256 * leNum r

theorem leNum_snoc : ∀ (xs : List Int) (x : Int), leNum (xs ++ [x]) = leNum xs + 2 ^ (8 * xs.length) * x
  | [], x => by simp [leNum]
  | y :: r, x => by
    simp only [List.cons_append, leNum, leNum_snoc r x, List.length_cons]
    rw [show 8 * (r.length + 1) = 8 * r.length + 8 from by omega, Int.pow_add, Int.mul_add, ← Int.add_assoc]
    congr 1
    rw [← Int.mul_assoc]
    congr 1
    exact Int.mul_comm _ _

theorem leNum_range : ∀ (xs : List Int), By xs → 0 ≤ leNum xs ∧ leNum xs < 2 ^ (8 * xs.length)
  | [], _ => by simp [leNum]
  | y :: r, h => by
    have h1 := leNum_range r (fun x hx => h x (List.mem_cons_of_mem _ hx))
    have h2 := h y List.mem_cons_self
    rw [List.length_cons, show 8 * (r.length + 1) = 8 * r.length + 8 from by omega, Int.pow_add]
    simp only [leNum]
    have e : (2 : Int) ^ 8 = 256 := rfl
    rw [e]
    omega

theorem leNum_leBytes : ∀ (n : Nat) (v : Int), leNum (leBytes n v) = v % 2 ^ (8 * n)
  | 0, v => by simp [leBytes, leNum, Int.emod_one]
  | n + 1, v => by
    rw [leBytes, leNum, leNum_leBytes n, show 8 * (n + 1) = 8 + 8 * n from by omega, Int.pow_add]
    have e : (2 : Int) ^ 8 = 256 := rfl
    rw [e]
    have hp : (0 : Int) < 2 ^ (8 * n) := Int.pow_pos (by decide)
    have h1 := Int.emod_add_mul_ediv v 256
    have h2 := Int.emod_add_mul_ediv (v / 256) (2 ^ (8 * n))
    have h3 := Int.emod_nonneg (v / 256) (Int.ne_of_gt hp)
    have h4 := Int.emod_lt_of_pos (v / 256) hp
    have h5 : 0 ≤ v % 256 ∧ v % 256 < 256 := by omega
    have h6 : v = (v % 256 + 256 * (v / 256 % 2 ^ (8 * n))) + (256 * 2 ^ (8 * n)) * (v / 256 / 2 ^ (8 * n)) := by
      rw [Int.mul_assoc, Int.add_assoc, ← Int.mul_add, h2]
      omega
    generalize v / 256 % 2 ^ (8 * n) = a at *
    generalize v / 256 / 2 ^ (8 * n) = c at *
    generalize v % 256 = d at *
    rw [h6, Int.add_mul_emod_self_left]
    exact (Int.emod_eq_of_lt (by omega) (by omega)).symm

theorem or_byte (A x : Int) (k : Nat) (hk : k < 8) (h0 : 0 ≤ A) (h1 : A < 2 ^ (8 * k)) (hx0 : 0 ≤ x) (hx1 : x ≤ 255) :
    bits .or .u64 A (IntKind.u64.wrap (x * 2 ^ (8 * k))) = A + 2 ^ (8 * k) * x := by
  obtain ⟨a, rfl⟩ := Int.eq_ofNat_of_zero_le h0
  obtain ⟨y, rfl⟩ := Int.eq_ofNat_of_zero_le hx0
  have hp : (2 : Int) ^ (8 * k) = ((2 ^ (8 * k) : Nat) : Int) := by simp
  rw [hp] at h1 ⊢
  have hk2 : 2 ^ (8 * k) ≤ 2 ^ 56 := Nat.pow_le_pow_right (by decide) (by omega)
  have h56 : (2 : Nat) ^ 56 = 72057594037927936 := by decide
  rw [h56] at hk2
  have hlt : a < 2 ^ (8 * k) := by omega
  have hy : y ≤ 255 := by omega
  have hm : y * 2 ^ (8 * k) ≤ 255 * 72057594037927936 := Nat.mul_le_mul hy hk2
  rw [← Int.natCast_mul, IntWalk.u64_in _ ⟨by omega, by omega⟩, u64_or_nat a (y * 2 ^ (8 * k)) (by omega) (by omega), Nat.or_comm, Nat.mul_comm, ← Nat.two_pow_add_eq_or_of_lt hlt, Int.natCast_add, Int.natCast_mul]
  omega

theorem leBytes_add : ∀ (k n : Nat) (v : Int), leBytes (k + n) v = leBytes k v ++ leBytes n (v / 2 ^ (8 * k))
  | 0, n, v => by simp [leBytes]
  | k + 1, n, v => by
    rw [show k + 1 + n = k + n + 1 from by omega, leBytes, leBytes_add k n, leBytes, List.cons_append, Int.ediv_ediv_of_nonneg (by omega), show (256 : Int) * 2 ^ (8 * k) = 2 ^ (8 * (k + 1)) from by rw [Nat.mul_add, Int.pow_add, Int.mul_comm]; rfl]

theorem leBytes_mod : ∀ (n : Nat) (v : Int), leBytes n (v % 2 ^ (8 * n)) = leBytes n v
  | 0, _ => rfl
  | n + 1, v => by
    have e : (2 : Int) ^ (8 * (n + 1)) = 256 * 2 ^ (8 * n) := by rw [Nat.mul_add, Int.pow_add, Int.mul_comm]; rfl
    have hp : (0 : Int) < 2 ^ (8 * n) := Int.pow_pos (by decide)
    have h1 : v % (256 * 2 ^ (8 * n)) % 256 = v % 256 := Int.emod_emod_of_dvd v ⟨_, rfl⟩
    have h2 : v % (256 * 2 ^ (8 * n)) / 256 = v / 256 % 2 ^ (8 * n) := by
      rw [Int.emod_def, Int.emod_def, Int.ediv_ediv_of_nonneg (by omega : (0 : Int) ≤ 256), Int.mul_assoc]
      generalize 2 ^ (8 * n) * (v / (256 * 2 ^ (8 * n))) = q
      omega
    rw [leBytes, leBytes, e, h1, h2, leBytes_mod n]

theorem leBytes_get (n : Nat) (v : Int) (k : Nat) (h : k < n) : (leBytes n v).getD k 0 = v / 2 ^ (8 * k) % 256 := by
  have e := leBytes_add k (n - k) v
  rw [show k + (n - k) = n from by omega] at e
  obtain ⟨m, hm⟩ : ∃ m, n - k = m + 1 := ⟨n - k - 1, by omega⟩
  rw [e, hm, leBytes, List.getD_eq_getElem?_getD, List.getElem?_append_right (by rw [leBytes_length]; exact Nat.le_refl _), leBytes_length, Nat.sub_self]
  rfl

theorem or_half (lo hi : Int) (h0 : 0 ≤ lo) (h1 : lo ≤ 4294967295) (h2 : 0 ≤ hi) (h3 : hi ≤ 4294967295) :
    bits .or .u64 lo (IntKind.u64.wrap (hi * 4294967296)) = lo + 4294967296 * hi := by
  obtain ⟨a, rfl⟩ := Int.eq_ofNat_of_zero_le h0
  obtain ⟨y, rfl⟩ := Int.eq_ofNat_of_zero_le h2
  have hlt : a < 2 ^ 32 := by have : (2 : Nat) ^ 32 = 4294967296 := by decide
                              omega
  have e : ((y : Int) * 4294967296) = ((y * 2 ^ 32 : Nat) : Int) := by simp
  have h32 : (2 : Nat) ^ 32 = 4294967296 := by decide
  rw [e, IntWalk.u64_in _ ⟨by omega, by omega⟩, u64_or_nat a (y * 2 ^ 32) (by omega) (by omega), Nat.or_comm, Nat.mul_comm, ← Nat.two_pow_add_eq_or_of_lt hlt]
  omega

theorem wrap_u16 (n : Int) : IntKind.u16.wrap n = n % 65536 := by simp [IntKind.wrap, IntKind.bits, IntKind.signed]

theorem and_low (v : Int) (n : Nat) (m : Int) (hn : n ≤ 64) (hm : m = 2 ^ n - 1) (h0 : 0 ≤ v) (h1 : v ≤ 18446744073709551615) : bits .and .u64 v m = v % 2 ^ n := by
  obtain ⟨a, rfl⟩ := Int.eq_ofNat_of_zero_le h0
  have hp : (2 : Int) ^ n = ((2 ^ n : Nat) : Int) := by simp
  have hk : 2 ^ n ≤ 2 ^ 64 := Nat.pow_le_pow_right (by decide) hn
  have h64 : (2 : Nat) ^ 64 = 18446744073709551616 := by decide
  have h1p : 1 ≤ 2 ^ n := Nat.one_le_two_pow
  have hm2 : m = ((2 ^ n - 1 : Nat) : Int) := by rw [hm, hp]; omega
  rw [hm2, u64_and_nat a (2 ^ n - 1) (by omega) (by omega), Nat.and_two_pow_sub_one_eq_mod, hp]
  rfl

end Go.Proofs.Ytffpjefecmkfmaa
