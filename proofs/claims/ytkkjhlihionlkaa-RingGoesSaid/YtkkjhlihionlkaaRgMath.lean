/-
  Places of a ring, marked. By an AI agent.
-/
import Derived.Test.YtkkjhlihionlkaaRgLawS
namespace Go.Proofs.Ytkkjhlihionlkaa
open Go.RowKit

/-- How many behind f a place p lies, going round. -/
def rel (S f p : Nat) : Nat := if f ≤ p then p - f else p + S - f

theorem md {a S : Nat} (h : a < 2 * S) : a % S = if a < S then a else a - S := by
  by_cases h1 : a < S
  · rw [if_pos h1]; exact Nat.mod_eq_of_lt h1
  · rw [if_neg h1, Nat.mod_eq_sub_mod (by omega)]; exact Nat.mod_eq_of_lt (by omega)

theorem rel_at {S f k : Nat} (hf : f < S) (hk : k < S) : rel S f ((f + k) % S) = k := by
  rw [md (by omega)]
  unfold rel
  split <;> split <;> omega

theorem rel_eq {S f p k : Nat} (hf : f < S) (hk : k < S) (hp : p < S) : rel S f p = k ↔ p = (f + k) % S := by
  constructor
  · intro h
    rw [md (by omega)]
    unfold rel at h
    split at h <;> split <;> omega
  · rintro rfl
    exact rel_at hf hk

theorem rel_lt {S f p : Nat} (hf : f < S) (hp : p < S) : rel S f p < S := by
  unfold rel
  split <;> omega

/-- The marks, as cells. -/
def bl (S : Nat) (g : Nat → Bool) : List Value := (List.range S).map fun p => .bool (g p)

theorem bl_len (S : Nat) (g : Nat → Bool) : (bl S g).length = S := by simp [bl]

theorem bl_at {S : Nat} {g : Nat → Bool} {p : Nat} (h : p < S) : (bl S g)[p]? = some (.bool (g p)) := by simp [bl, h]

theorem bl_congr {S : Nat} {g g' : Nat → Bool} (h : ∀ p, p < S → g p = g' p) : bl S g = bl S g' := by
  unfold bl
  apply List.map_congr_left
  intro p hp
  rw [h p (by simpa using hp)]

theorem bl_set {S : Nat} {g : Nat → Bool} {p : Nat} (h : p < S) : (bl S g).set p (.bool true) = bl S (fun q => g q || decide (q = p)) := by
  apply List.ext_getElem?
  intro j
  by_cases hj : j < S
  · by_cases hp : j = p
    · subst hp
      rw [List.getElem?_set_self (by rw [bl_len]; exact hj), bl_at hj]
      simp
    · rw [List.getElem?_set_ne (fun q => hp q.symm), bl_at hj, bl_at hj]
      simp [hp]
  · rw [List.getElem?_eq_none (by simp [bl]; omega), List.getElem?_eq_none (by simp [bl]; omega)]

/-- What was marked, and c places more from f on. -/
def upto (S f : Nat) (g : Nat → Bool) (c : Nat) : Nat → Bool := fun p => g p || decide (rel S f p < c)

theorem upto_zero (S f : Nat) (g : Nat → Bool) : upto S f g 0 = g := by funext p; simp [upto]

theorem upto_free {S f c : Nat} {g : Nat → Bool} (hf : f < S) (hc : c < S) (hg : g ((f + c) % S) = false) : upto S f g c ((f + c) % S) = false := by
  unfold upto
  rw [hg, rel_at hf hc]
  simp

theorem upto_set {S f c : Nat} {g : Nat → Bool} (hf : f < S) (hc : c < S) : (bl S (upto S f g c)).set ((f + c) % S) (.bool true) = bl S (upto S f g (c + 1)) := by
  rw [bl_set (Nat.mod_lt _ (by omega))]
  refine bl_congr fun p hp => ?_
  unfold upto
  have h1 := rel_eq hf hc hp
  rw [Bool.or_assoc]
  congr 1
  rw [← Bool.decide_or]
  refine decide_eq_decide.2 ⟨fun h => ?_, fun h => ?_⟩
  · rcases h with h | h
    · omega
    · rw [h1.2 h]; omega
  · by_cases q : rel S f p = c
    · exact .inr (h1.1 q)
    · exact .inl (by omega)

/-- How many places the first i spans have. -/
def cnt (l : List (Nat × Nat)) (i : Nat) : Nat := ((l.take i).map (·.2)).sum

theorem spn_at {S f n : Nat} (hf : f < S) (hn : n ≤ S) {i a b : Nat} (h : (spn S f n)[i]? = some (a, b)) :
    a = (f + cnt (spn S f n) i) % S ∧ 1 ≤ b ∧ a + b ≤ S ∧ cnt (spn S f n) i + b ≤ n ∧ cnt (spn S f n) (i + 1) = cnt (spn S f n) i + b := by
  rcases spn_cases S f n hf hn with ⟨_, e⟩ | ⟨h0, h1, e⟩ | ⟨m, q, h0, h1, h2, h3, e⟩
  · rw [e] at h; simp at h
  · rw [e] at h ⊢
    match i, h with
    | 0, h =>
      obtain ⟨rfl, rfl⟩ : f = a ∧ n = b := by simpa using h
      refine ⟨by simp [cnt, Nat.mod_eq_of_lt hf], h0, h1, by simp [cnt], by simp [cnt]⟩
    | i + 1, h => simp at h
  · rw [e] at h ⊢
    match i, h with
    | 0, h =>
      obtain ⟨rfl, rfl⟩ : f = a ∧ m = b := by simpa using h
      refine ⟨by simp [cnt, Nat.mod_eq_of_lt hf], h0, by omega, by simp [cnt]; omega, by simp [cnt]⟩
    | 1, h =>
      obtain ⟨rfl, rfl⟩ : 0 = a ∧ q = b := by simpa using h
      refine ⟨?_, h1, by omega, by simp [cnt]; omega, by simp [cnt]⟩
      simp [cnt, h2]
    | i + 2, h => simp at h

theorem spn_all {S f n : Nat} (hf : f < S) (hn : n ≤ S) : cnt (spn S f n) (spn S f n).length = n := by
  rcases spn_cases S f n hf hn with ⟨h, e⟩ | ⟨h0, h1, e⟩ | ⟨m, q, h0, h1, h2, h3, e⟩
  · rw [e]; simp [cnt, h]
  · rw [e]; simp [cnt]
  · rw [e]; simp [cnt, h3]

end Go.Proofs.Ytkkjhlihionlkaa
