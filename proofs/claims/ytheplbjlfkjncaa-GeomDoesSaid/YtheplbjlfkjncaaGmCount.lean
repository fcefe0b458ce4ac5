/-
  Members counted. No function of the program is named here. By an AI agent.
-/
import Derived.Test.YtheplbjlfkjncaaGmSpec
namespace Go.Proofs.Ytheplbjlfkjncaa
namespace Gm

/-- One number for each member. -/
def vec (n : Nat) (f : Nat → Nat) : List Nat := (List.range n).map f

theorem vec_len (n : Nat) (f : Nat → Nat) : (vec n f).length = n := by simp [vec]

theorem vec_get {n : Nat} (f : Nat → Nat) {m : Nat} (h : m < n) : (vec n f)[m]? = some (f m) := by simp [vec, h]

theorem vec_up {n : Nat} (f : Nat → Nat) (m : Nat) : (vec n f).set m (f m + 1) = vec n (fun x => if x = m then f x + 1 else f x) := by
  apply List.ext_getElem?
  intro i
  rw [List.getElem?_set]
  by_cases hi : i < n
  · by_cases e : m = i
    · subst e
      rw [if_pos rfl, if_pos (by rw [vec_len]; exact hi), vec_get _ hi, if_pos rfl]
    · rw [if_neg e, vec_get _ hi, vec_get _ hi, if_neg (Ne.symm e)]
  · rw [List.getElem?_eq_none (by rw [vec_len]; omega), List.getElem?_eq_none (by rw [vec_len]; omega)]
    by_cases e : m = i
    · rw [if_pos e, if_neg (by rw [vec_len]; omega)]
    · rw [if_neg e]

theorem vec_congr {n : Nat} {f h : Nat → Nat} (e : ∀ m, m < n → f m = h m) : vec n f = vec n h := by
  unfold vec
  exact List.map_congr_left (fun m hm => e m (List.mem_range.1 hm))

theorem vec_zero (n : Nat) : vec n (fun _ => 0) = List.replicate n 0 := by
  apply List.ext_getElem?
  intro i
  by_cases h : i < n <;> simp [vec, h]

/-- The parity's member, and the first d of the others. -/
def seen (g : Gm) (p d : Nat) (m : Nat) : Nat := if m = p then 1 else if g.far p m < d then 1 else 0

theorem seen_zero (g : Gm) (p : Nat) : vec g.n (fun x => if x = p then 0 + 1 else 0) = vec g.n (g.seen p 0) := vec_congr (fun m _ => by
  unfold seen
  by_cases h : m = p
  · rw [if_pos h, if_pos h]
  · rw [if_neg h, if_neg h, if_neg (Nat.not_lt_zero _)])

theorem seen_next {g : Gm} {p d : Nat} (hp : p < g.n) (hd : d < g.n - 1) : g.seen p d (g.mem p d) = 0 ∧ vec g.n (fun x => if x = g.mem p d then g.seen p d x + 1 else g.seen p d x) = vec g.n (g.seen p (d + 1)) := by
  have hne := mem_ne hp hd
  have hfm := far_mem hp (show d < g.n by omega)
  have h0 : g.seen p d (g.mem p d) = 0 := by
    unfold seen
    rw [if_neg hne, hfm, if_neg (Nat.lt_irrefl _)]
  refine ⟨h0, vec_congr (fun m hm => ?_)⟩
  by_cases e : m = g.mem p d
  · rw [if_pos e, e, h0]
    unfold seen
    rw [if_neg hne, hfm, if_pos (Nat.lt_succ_self _)]
  · rw [if_neg e]
    unfold seen
    by_cases h : m = p
    · rw [if_pos h, if_pos h]
    · rw [if_neg h, if_neg h]
      have h2 : g.far p m ≠ d := fun q => e (by rw [← q, mem_far hp hm])
      by_cases h3 : g.far p m < d
      · rw [if_pos h3, if_pos (by omega)]
      · rw [if_neg h3, if_neg (by omega)]

theorem seen_all {g : Gm} {p m : Nat} (hp : p < g.n) (hm : m < g.n) : g.seen p (g.n - 1) m = 1 := by
  unfold seen
  by_cases h : m = p
  · rw [if_pos h]
  · rw [if_neg h, if_pos (far_other hp hm h)]

/-- How many stripes on from f a member has the parity. -/
def turn (g : Gm) (f m : Nat) : Nat := (2 * g.n - 1 - m - f % g.n) % g.n

theorem turn_par {g : Gm} (h : 1 ≤ g.n) {f i : Nat} (hi : i < g.n) : g.turn f (g.par (f + i)) = i := by
  have h1 : f % g.n < g.n := Nat.mod_lt _ (by omega)
  have h2 : (f + i) % g.n = if f % g.n + i < g.n then f % g.n + i else f % g.n + i - g.n := by
    rw [Nat.add_mod, Nat.mod_eq_of_lt hi]
    exact mod_two (by omega)
  unfold turn par
  rw [h2, mod_two (by split <;> omega)]
  split <;> split <;> omega

theorem par_turn {g : Gm} (h : 1 ≤ g.n) {f m : Nat} (hm : m < g.n) : g.par (f + g.turn f m) = m := by
  have h1 : f % g.n < g.n := Nat.mod_lt _ (by omega)
  have h3 : g.turn f m < g.n := Nat.mod_lt _ (by omega)
  have h4 : g.turn f m = if 2 * g.n - 1 - m - f % g.n < g.n then 2 * g.n - 1 - m - f % g.n else 2 * g.n - 1 - m - f % g.n - g.n := mod_two (by omega)
  have h2 : (f + g.turn f m) % g.n = if f % g.n + g.turn f m < g.n then f % g.n + g.turn f m else f % g.n + g.turn f m - g.n := by
    rw [Nat.add_mod, Nat.mod_eq_of_lt h3]
    exact mod_two (by omega)
  unfold par
  rw [h2, h4]
  split <;> split <;> omega

/-- Parities of j stripes. -/
def pars (g : Gm) (f j m : Nat) : Nat := if g.turn f m < j then 1 else 0

theorem pars_next {g : Gm} (h : 1 ≤ g.n) {f j : Nat} (hj : j < g.n) : vec g.n (fun x => if x = g.par (f + j) then g.pars f j x + 1 else g.pars f j x) = vec g.n (g.pars f (j + 1)) := vec_congr (fun m hm => by
  unfold pars
  by_cases e : m = g.par (f + j)
  · have h1 : g.turn f m = j := by rw [e, turn_par h hj]
    rw [if_pos e, h1, if_neg (Nat.lt_irrefl _), if_pos (Nat.lt_succ_self _)]
  · rw [if_neg e]
    have h2 : g.turn f m ≠ j := fun q => e (by rw [← q, par_turn h hm])
    by_cases h3 : g.turn f m < j
    · rw [if_pos h3, if_pos (by omega)]
    · rw [if_neg h3, if_neg (by omega)])

theorem pars_all {g : Gm} (h : 1 ≤ g.n) {f m : Nat} : g.pars f g.n m = 1 := by
  unfold pars
  rw [if_pos (show g.turn f m < g.n from Nat.mod_lt _ (by omega))]

theorem pars_le (g : Gm) (f j m : Nat) : g.pars f j m ≤ j := by
  unfold pars
  split <;> omega

/-- Blocks of j stripes, and of i members more. -/
def has (g : Gm) (f j i m : Nat) : Nat := j - g.pars f j m + if g.far (g.par (f + j)) m < i then 1 else 0

theorem has_zero (g : Gm) (m : Nat) : g.has 0 0 0 m = 0 := by
  unfold has
  rw [if_neg (Nat.not_lt_zero _)]
  omega

theorem has_next {g : Gm} {f j i : Nat} (hi : i < g.n - 1) : vec g.n (fun x => if x = g.mem (g.par (f + j)) i then g.has f j i x + 1 else g.has f j i x) = vec g.n (g.has f j (i + 1)) := vec_congr (fun m hm => by
  have hp := par_lt (g := g) (by omega) (f + j)
  unfold has
  by_cases e : m = g.mem (g.par (f + j)) i
  · have h1 : g.far (g.par (f + j)) m = i := by rw [e, far_mem hp (by omega)]
    rw [if_pos e, h1, if_neg (Nat.lt_irrefl _), if_pos (Nat.lt_succ_self _)]
  · rw [if_neg e]
    have h2 : g.far (g.par (f + j)) m ≠ i := fun q => e (by rw [← q, mem_far hp hm])
    by_cases h3 : g.far (g.par (f + j)) m < i
    · rw [if_pos h3, if_pos (by omega)]
    · rw [if_neg h3, if_neg (by omega)])

theorem has_stripe {g : Gm} (h : 1 ≤ g.n) {f j : Nat} (hj : j < g.n) : vec g.n (g.has f j (g.n - 1)) = vec g.n (g.has f (j + 1) 0) := vec_congr (fun m hm => by
  have hp := par_lt (g := g) h (f + j)
  unfold has
  rw [if_neg (Nat.not_lt_zero _)]
  by_cases e : m = g.par (f + j)
  · have h1 : g.turn f m = j := by rw [e, turn_par h hj]
    rw [e, far_self hp, if_neg (Nat.lt_irrefl _), ← e]
    unfold pars
    rw [h1, if_neg (Nat.lt_irrefl _), if_pos (Nat.lt_succ_self _)]
    omega
  · rw [if_pos (far_other hp hm e)]
    have h2 : g.turn f m ≠ j := fun q => e (by rw [← q, par_turn h hm])
    have h4 := pars_le g f j m
    unfold pars at h4 ⊢
    by_cases h3 : g.turn f m < j
    · rw [if_pos h3, if_pos (by omega)]
      omega
    · rw [if_neg h3, if_neg (by omega)]
      omega)

theorem has_all {g : Gm} (h : 1 ≤ g.n) {f m : Nat} : g.has f g.n 0 m = g.n - 1 := by
  unfold has
  rw [if_neg (Nat.not_lt_zero _), pars_all h]
  omega

end Gm
end Go.Proofs.Ytheplbjlfkjncaa
