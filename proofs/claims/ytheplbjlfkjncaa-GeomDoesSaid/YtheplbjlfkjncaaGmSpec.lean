/-
  Where blocks lie, in numbers. No function of the program is named here. By an AI agent.
-/
import Derived.Test.YtheplbjlfkjncaaGNats
namespace Go.Proofs.Ytheplbjlfkjncaa

/-- A geometry: members, rows of a stripe, stripes. -/
structure Gm where
  n : Nat
  k : Nat
  s : Nat

namespace Gm

structure Ok (g : Gm) : Prop where
  n : 3 ≤ g.n ∧ g.n ≤ 16
  k : 1 ≤ g.k ∧ g.k ≤ 16
  s : 1 ≤ g.s ∧ g.s ≤ 256

def rows (g : Gm) : Nat := g.s * g.k
def each (g : Gm) : Nat := (g.n - 1) * g.k
def blocks (g : Gm) : Nat := g.s * g.k * (g.n - 1)

/-- The member that has a stripe's parity. -/
def par (g : Gm) (t : Nat) : Nat := g.n - 1 - t % g.n

/-- How far a member stands behind the one that has the parity. -/
def far (g : Gm) (p m : Nat) : Nat := (m + 2 * g.n - p - 1) % g.n

/-- The member that stands so far behind it. -/
def mem (g : Gm) (p d : Nat) : Nat := (p + 1 + d) % g.n

def stripe (g : Gm) (b : Nat) : Nat := b / g.each
def row (g : Gm) (b : Nat) : Nat := g.stripe b * g.k + b % g.each % g.k
def member (g : Gm) (b : Nat) : Nat := g.mem (g.par (g.stripe b)) (b % g.each / g.k)

/-- The block at a member's row. -/
def block (g : Gm) (m r : Nat) : Nat := r / g.k * (g.n - 1) * g.k + g.far (g.par (r / g.k)) m * g.k + r % g.k

theorem par_lt {g : Gm} (h : 1 ≤ g.n) (t : Nat) : g.par t < g.n := by unfold par; omega

theorem mem_lt {g : Gm} (h : 1 ≤ g.n) (p d : Nat) : g.mem p d < g.n := Nat.mod_lt _ (by omega)

theorem mod_two {a n : Nat} (h : a < 2 * n) : a % n = if a < n then a else a - n := by
  split
  · exact Nat.mod_eq_of_lt (by assumption)
  · rw [Nat.mod_eq_sub_mod (by omega)]
    exact Nat.mod_eq_of_lt (by omega)

theorem mod_three {a n : Nat} (h : a < 3 * n) : a % n = if a < n then a else if a < 2 * n then a - n else a - 2 * n := by
  by_cases h1 : a < n
  · rw [if_pos h1, Nat.mod_eq_of_lt h1]
  · rw [if_neg h1, Nat.mod_eq_sub_mod (by omega), mod_two (by omega)]
    by_cases h2 : a < 2 * n
    · rw [if_pos h2, if_pos (by omega)]
    · rw [if_neg h2, if_neg (by omega)]
      omega

theorem mem_eq {g : Gm} {p d : Nat} (hp : p < g.n) (hd : d < g.n) : g.mem p d = if p + 1 + d < g.n then p + 1 + d else p + 1 + d - g.n := by
  unfold mem
  by_cases h : p + 1 + d < 2 * g.n
  · exact mod_two h
  · have : p + 1 + d = 2 * g.n - 1 + 1 - 1 := by omega
    omega

theorem far_eq {g : Gm} {p m : Nat} (hp : p < g.n) (hm : m < g.n) : g.far p m = if p < m then m - p - 1 else m + g.n - p - 1 := by
  unfold far
  rw [mod_three (by omega)]
  by_cases h : p < m
  · rw [if_pos h]
    rw [if_neg (by omega), if_neg (by omega)]
    omega
  · rw [if_neg h]
    rw [if_neg (by omega), if_pos (by omega)]
    omega

theorem far_lt {g : Gm} (h : 1 ≤ g.n) (p m : Nat) : g.far p m < g.n := Nat.mod_lt _ (by omega)

theorem far_mem {g : Gm} {p d : Nat} (hp : p < g.n) (hd : d < g.n) : g.far p (g.mem p d) = d := by
  have hm := mem_lt (g := g) (by omega) p d
  rw [far_eq hp hm, mem_eq hp hd]
  by_cases h : p + 1 + d < g.n
  · rw [if_pos h, if_pos (by omega)]
    omega
  · rw [if_neg h, if_neg (by omega)]
    omega

theorem mem_far {g : Gm} {p m : Nat} (hp : p < g.n) (hm : m < g.n) : g.mem p (g.far p m) = m := by
  have hf := far_lt (g := g) (by omega) p m
  rw [mem_eq hp hf, far_eq hp hm]
  by_cases h : p < m
  · rw [if_pos h, if_pos (by omega)]
    omega
  · rw [if_neg h]
    split <;> omega

theorem far_self {g : Gm} {p : Nat} (hp : p < g.n) : g.far p p = g.n - 1 := by
  rw [far_eq hp hp, if_neg (by omega)]
  omega

theorem far_other {g : Gm} {p m : Nat} (hp : p < g.n) (hm : m < g.n) (h : m ≠ p) : g.far p m < g.n - 1 := by
  rw [far_eq hp hm]
  split <;> omega

theorem mem_ne {g : Gm} {p d : Nat} (hp : p < g.n) (hd : d < g.n - 1) : g.mem p d ≠ p := by
  intro h
  have h1 := far_mem hp (show d < g.n by omega)
  rw [h, far_self hp] at h1
  omega

theorem each_pos {g : Gm} (h : g.Ok) : 0 < g.each := Nat.mul_pos (by have := h.n; omega) (by have := h.k; omega)

theorem blocks_each (g : Gm) : g.blocks = g.s * g.each := by
  unfold blocks each
  rw [Nat.mul_assoc, Nat.mul_comm g.k]

/-- A row's stripe, and its place in it. -/
theorem row_div {g : Gm} (h : g.Ok) (t x : Nat) (hx : x < g.k) : (t * g.k + x) / g.k = t ∧ (t * g.k + x) % g.k = x := by
  have hk : 0 < g.k := by have := h.k; omega
  refine ⟨?_, ?_⟩
  · rw [Nat.add_comm, Nat.add_mul_div_right _ _ hk, Nat.div_eq_of_lt hx, Nat.zero_add]
  · rw [Nat.add_comm, Nat.add_mul_mod_self_right, Nat.mod_eq_of_lt hx]

theorem row_at {g : Gm} (h : g.Ok) (b : Nat) : g.row b / g.k = g.stripe b ∧ g.row b % g.k = b % g.each % g.k := row_div h _ _ (Nat.mod_lt _ (by have := h.k; omega))

theorem in_lt {g : Gm} (h : g.Ok) (b : Nat) : b % g.each / g.k < g.n - 1 := by
  have h1 : b % g.each < (g.n - 1) * g.k := Nat.mod_lt _ (each_pos h)
  exact Nat.div_lt_of_lt_mul (by rw [Nat.mul_comm]; exact h1)

/-- The block at a block's place is the block. -/
theorem block_of {g : Gm} (h : g.Ok) (b : Nat) : g.block (g.member b) (g.row b) = b ∧ g.member b ≠ g.par (g.row b / g.k) ∧ g.member b < g.n := by
  obtain ⟨h1, h2⟩ := row_at h b
  have hn : 1 ≤ g.n := by have := h.n; omega
  have hp := par_lt hn (g.stripe b)
  have hd := in_lt h b
  unfold block
  rw [h1, h2]
  unfold member
  rw [far_mem hp (by omega)]
  refine ⟨?_, mem_ne hp hd, mem_lt hn _ _⟩
  have e1 : b % g.each / g.k * g.k + b % g.each % g.k = b % g.each := Nat.div_add_mod' _ _
  have e2 : g.stripe b * (g.n - 1) * g.k = b / g.each * g.each := by unfold stripe each; rw [Nat.mul_assoc]
  have e3 : b / g.each * g.each + b % g.each = b := Nat.div_add_mod' _ _
  rw [e2]
  omega

theorem row_lt {g : Gm} (h : g.Ok) {b : Nat} (hb : b < g.blocks) : g.row b < g.rows ∧ g.stripe b < g.s := by
  have hs : g.stripe b < g.s := by
    unfold stripe
    rw [blocks_each] at hb
    exact Nat.div_lt_of_lt_mul (by rw [Nat.mul_comm]; exact hb)
  refine ⟨?_, hs⟩
  unfold row rows
  have hx : b % g.each % g.k < g.k := Nat.mod_lt _ (by have := h.k; omega)
  have : (g.stripe b + 1) * g.k ≤ g.s * g.k := Nat.mul_le_mul_right _ hs
  rw [Nat.add_mul, Nat.one_mul] at this
  omega

/-- The place of the block at a place is the place. -/
theorem of_block {g : Gm} (h : g.Ok) {m r : Nat} (hm : m < g.n) (hne : m ≠ g.par (r / g.k)) : g.stripe (g.block m r) = r / g.k ∧ g.row (g.block m r) = r ∧ g.member (g.block m r) = m := by
  have hn : 1 ≤ g.n := by have := h.n; omega
  have hk : 0 < g.k := by have := h.k; omega
  have hp := par_lt hn (r / g.k)
  have hf := far_other hp hm hne
  have hx : r % g.k < g.k := Nat.mod_lt _ hk
  obtain ⟨i, hi⟩ : ∃ i, i = g.far (g.par (r / g.k)) m * g.k + r % g.k := ⟨_, rfl⟩
  have hil : i < g.each := by
    have : (g.far (g.par (r / g.k)) m + 1) * g.k ≤ (g.n - 1) * g.k := Nat.mul_le_mul_right _ hf
    rw [Nat.add_mul, Nat.one_mul] at this
    unfold each
    omega
  have hb : g.block m r = i + r / g.k * g.each := by
    unfold block each
    rw [← Nat.mul_assoc, hi]
    omega
  have h1 : g.block m r / g.each = r / g.k := by
    rw [hb, Nat.add_mul_div_right _ _ (each_pos h), Nat.div_eq_of_lt hil, Nat.zero_add]
  have h2 : g.block m r % g.each = i := by
    rw [hb, Nat.add_mul_mod_self_right, Nat.mod_eq_of_lt hil]
  obtain ⟨h3, h4⟩ := row_div h (g.far (g.par (r / g.k)) m) (r % g.k) hx
  rw [← hi] at h3 h4
  refine ⟨h1, ?_, ?_⟩
  · unfold row stripe
    rw [h1, h2, h4]
    exact Nat.div_add_mod' _ _
  · unfold member stripe
    rw [h1, h2, h3]
    exact mem_far hp hm

theorem block_lt {g : Gm} (h : g.Ok) {m r : Nat} (hm : m < g.n) (hne : m ≠ g.par (r / g.k)) (hr : r < g.rows) : g.block m r < g.blocks := by
  have h1 := (of_block h hm hne).1
  have hk : 0 < g.k := by have := h.k; omega
  have hs : r / g.k < g.s := Nat.div_lt_of_lt_mul (by rw [Nat.mul_comm]; exact hr)
  unfold stripe at h1
  rw [blocks_each]
  have := (Nat.div_lt_iff_lt_mul (each_pos h)).1 (by rw [h1]; exact hs)
  exact this

/-- The members of a row's blocks, in the order of the blocks. -/
def list (g : Gm) (p : Nat) : List Nat := (List.range (g.n - 1)).map (g.mem p)

theorem block_up {g : Gm} (h : g.Ok) {p d r : Nat} (hp : p = g.par (r / g.k)) (hd : d + 1 < g.n - 1) : g.block (g.mem p d) r < g.block (g.mem p (d + 1)) r := by
  have hn : 1 ≤ g.n := by have := h.n; omega
  have hpl := par_lt hn (r / g.k)
  have hk : 0 < g.k := by have := h.k; omega
  subst hp
  unfold block
  rw [far_mem hpl (by omega), far_mem hpl (by omega), Nat.add_mul, Nat.one_mul]
  omega

/-- Parity goes round. -/
theorem par_add (g : Gm) (t : Nat) : g.par (t + g.n) = g.par t := by unfold par; rw [Nat.add_mod_right]

theorem par_next {g : Gm} (h : g.Ok) (t : Nat) : g.par (t + 1) ≠ g.par t := by
  have hn := h.n
  have h1 : t % g.n < g.n := Nat.mod_lt _ (by omega)
  unfold par
  have : (t + 1) % g.n = if t % g.n + 1 = g.n then 0 else t % g.n + 1 := by
    rw [Nat.add_mod, Nat.mod_eq_of_lt (show 1 < g.n by omega)]
    split
    · rename_i h2
      rw [h2, Nat.mod_self]
    · exact Nat.mod_eq_of_lt (by omega)
  rw [this]
  split <;> omega

end Gm
end Go.Proofs.Ytheplbjlfkjncaa
