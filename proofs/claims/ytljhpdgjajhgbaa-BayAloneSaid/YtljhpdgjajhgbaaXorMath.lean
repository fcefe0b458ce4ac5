/-
  Exclusive ors of rows, as numbers. No function of the program is named here. By an AI agent.
-/
import Derived.Test.YtljhpdgjajhgbaaMem
namespace Go.Proofs.Ytljhpdgjajhgbaa.Xr

/-- The exclusive or of some numbers. -/
def fold : List Nat → Nat
  | [] => 0
  | b :: bs => b ^^^ fold bs

theorem fold_append : ∀ (a b : List Nat), fold (a ++ b) = fold a ^^^ fold b
  | [], b => by rw [List.nil_append, fold, Nat.zero_xor]
  | x :: a, b => by rw [List.cons_append, fold, fold, fold_append a b, Nat.xor_assoc]

theorem fold_snoc (a : List Nat) (x : Nat) : fold (a ++ [x]) = fold a ^^^ x := by rw [fold_append, fold, fold, Nat.xor_zero]

theorem fold_swap (a b : List Nat) : fold (b ++ a) = fold (a ++ b) := by rw [fold_append, fold_append, Nat.xor_comm]

theorem fold_reverse : ∀ (a : List Nat), fold a.reverse = fold a
  | [] => rfl
  | x :: a => by rw [List.reverse_cons, fold_snoc, fold_reverse a, fold, Nat.xor_comm]

theorem fold_lt : ∀ {a : List Nat}, (∀ b ∈ a, b < 256) → fold a < 256
  | [], _ => by decide
  | x :: a, h => Nat.xor_lt_two_pow (n := 8) (h x List.mem_cons_self) (fold_lt fun b hb => h b (List.mem_cons_of_mem _ hb))

theorem div_mod_xor (a b j : Nat) : (a ^^^ b) / 2 ^ j % 2 = (a / 2 ^ j % 2 + b / 2 ^ j % 2) % 2 := by
  have h := Nat.shiftRight_xor_distrib (a := a) (b := b) (i := j)
  simp only [Nat.shiftRight_eq_div_pow] at h
  rw [h]
  have h2 := Nat.xor_mod_two_pow (a := a / 2 ^ j) (b := b / 2 ^ j) (n := 1)
  rw [Nat.pow_one] at h2
  rw [h2]
  rcases Nat.mod_two_eq_zero_or_one (a / 2 ^ j) with ha | ha <;> rcases Nat.mod_two_eq_zero_or_one (b / 2 ^ j) with hb | hb <;> rw [ha, hb] <;> rfl

/-- How many of them have a 1 at that bit. -/
def many (j : Nat) : List Nat → Nat
  | [] => 0
  | b :: bs => b / 2 ^ j % 2 + many j bs

theorem many_append (j : Nat) : ∀ (a b : List Nat), many j (a ++ b) = many j a + many j b
  | [], b => by rw [List.nil_append, many, Nat.zero_add]
  | x :: a, b => by rw [List.cons_append, many, many, many_append j a b, Nat.add_assoc]

theorem many_snoc (j : Nat) (a : List Nat) (x : Nat) : many j (a ++ [x]) = many j a + x / 2 ^ j % 2 := by rw [many_append, many, many, Nat.add_zero]

theorem many_le (j : Nat) : ∀ (a : List Nat), many j a ≤ a.length
  | [] => Nat.le_refl _
  | x :: a => by
    have := many_le j a
    have := Nat.mod_lt (x / 2 ^ j) (show 0 < 2 by decide)
    rw [many, List.length_cons]
    omega

theorem many_mod (j : Nat) : ∀ (a : List Nat), many j a % 2 = fold a / 2 ^ j % 2
  | [] => by rw [many, fold, Nat.zero_div]
  | x :: a => by
    rw [many, fold, div_mod_xor, ← many_mod j a]
    omega

/-- One bit more. -/
theorem bit_step (a : List Nat) (j : Nat) : 2 * (fold a / 2 ^ (j + 1)) + many j a % 2 = fold a / 2 ^ j := by
  rw [many_mod, Nat.pow_succ, ← Nat.div_div_eq_div_mul]
  omega

/-- The k-th bytes of some rows. -/
def at_ (rs : List (List Nat)) (k : Nat) : List Nat := rs.map fun r => r.getD k 0

theorem at_append (a b : List (List Nat)) (k : Nat) : at_ (a ++ b) k = at_ a k ++ at_ b k := by simp [at_]

/-- Rows of n bytes. -/
def Len (n : Nat) (rs : List (List Nat)) : Prop := ∀ r ∈ rs, r.length = n
/-- Rows of bytes. -/
def Bss (rs : List (List Nat)) : Prop := ∀ r ∈ rs, ∀ b ∈ r, b < 256

theorem at_lt {rs : List (List Nat)} (h : Bss rs) (k : Nat) : ∀ b ∈ at_ rs k, b < 256 := by
  intro b hb
  obtain ⟨r, hr, rfl⟩ := List.mem_map.1 hb
  show r.getD k 0 < 256
  rw [List.getD_eq_getElem?_getD]
  by_cases hk : k < r.length
  · rw [List.getElem?_eq_getElem hk]
    exact h r hr _ (List.getElem_mem hk)
  · rw [List.getElem?_eq_none (by omega)]
    decide

/-- The exclusive or of rows, as far as n bytes. -/
def ors (n : Nat) (rs : List (List Nat)) : List Nat := (List.range n).map fun k => fold (at_ rs k)

theorem ors_length (n : Nat) (rs : List (List Nat)) : (ors n rs).length = n := by simp [ors]

theorem ors_get {n k : Nat} (rs : List (List Nat)) (h : k < n) : (ors n rs).getD k 0 = fold (at_ rs k) := by simp [ors, List.getD, h]

theorem ors_bs {rs : List (List Nat)} (h : Bss rs) (n : Nat) : ∀ b ∈ ors n rs, b < 256 := by
  intro b hb
  obtain ⟨k, _, rfl⟩ := List.mem_map.1 hb
  exact fold_lt (at_lt h k)

theorem ors_swap (n : Nat) (a b : List (List Nat)) : ors n (b ++ a) = ors n (a ++ b) := by
  unfold ors
  refine List.map_congr_left fun k _ => ?_
  rw [at_append, at_append, fold_swap]

theorem ors_reverse (n : Nat) (a : List (List Nat)) : ors n a.reverse = ors n a := by
  unfold ors
  refine List.map_congr_left fun k _ => ?_
  rw [show at_ a.reverse k = (at_ a k).reverse by simp [at_], fold_reverse]

/-- Two lists of n bytes that have the same bytes. -/
theorem list_ext {n : Nat} {a b : List Nat} (ha : a.length = n) (hb : b.length = n) (h : ∀ k, k < n → a.getD k 0 = b.getD k 0) : a = b := by
  refine List.ext_getElem (by rw [ha, hb]) fun k h1 h2 => ?_
  have := h k (by omega)
  simpa [List.getD, List.getElem?_eq_getElem h1, List.getElem?_eq_getElem h2] using this

/-- One row, put together with rows. -/
theorem ors_one {n : Nat} {r : List Nat} (h : r.length = n) : ors n [r] = r := by
  refine list_ext (ors_length _ _) h fun k hk => ?_
  rw [ors_get _ hk]
  simp [at_, fold]

theorem ors_put {n : Nat} (a b c : List (List Nat)) : ors n (a ++ [ors n b] ++ c) = ors n (a ++ b ++ c) := by
  refine list_ext (ors_length _ _) (ors_length _ _) fun k hk => ?_
  rw [ors_get _ hk, ors_get _ hk, at_append, at_append, at_append, at_append, fold_append, fold_append, fold_append, fold_append]
  congr 2
  show fold [(ors n b).getD k 0] = _
  rw [ors_get _ hk, fold, fold, Nat.xor_zero]

/-- Rows that are there twice are none. -/
theorem ors_twice {n : Nat} (a b c : List (List Nat)) (r : List Nat) : ors n (a ++ [r] ++ b ++ [r] ++ c) = ors n (a ++ b ++ c) := by
  refine list_ext (ors_length _ _) (ors_length _ _) fun k hk => ?_
  rw [ors_get _ hk, ors_get _ hk]
  simp only [at_append, fold_append]
  show fold (at_ a k) ^^^ fold [r.getD k 0] ^^^ fold (at_ b k) ^^^ fold [r.getD k 0] ^^^ fold (at_ c k) = _
  generalize fold [r.getD k 0] = x
  generalize fold (at_ a k) = p
  generalize fold (at_ b k) = q
  congr 1
  rw [Nat.xor_assoc, Nat.xor_assoc, Nat.xor_comm q x, ← Nat.xor_assoc x x q, Nat.xor_self, Nat.zero_xor]

def noughts (n : Nat) : List Nat := List.replicate n 0

theorem ors_nil (n : Nat) : ors n [] = noughts n := by
  refine list_ext (ors_length _ _) (by simp [noughts]) fun k hk => ?_
  rw [ors_get _ hk]
  simp [at_, fold, noughts, List.getD, hk]

/-- Rows, and what they come to, are even. -/
theorem ors_even (n : Nat) (rs : List (List Nat)) : ors n (rs ++ [ors n rs]) = noughts n := by
  have h := ors_put (n := n) rs rs []
  rw [List.append_nil, List.append_nil] at h
  rw [h, ← ors_nil]
  refine list_ext (ors_length _ _) (ors_length _ _) fun k hk => ?_
  rw [ors_get _ hk, ors_get _ hk, at_append, fold_append, Nat.xor_self]
  rfl

/-- Each row comes back out of the others, if all of them are even. -/
theorem ors_back {n : Nat} (a b : List (List Nat)) (r : List Nat) (hr : r.length = n) (h : ors n (a ++ [r] ++ b) = noughts n) : ors n (a ++ b) = r := by
  refine list_ext (ors_length _ _) hr fun k hk => ?_
  have hk2 := congrArg (fun l => List.getD l k 0) h

  rw [ors_get _ hk, at_append, fold_append]
  rw [ors_get _ hk] at hk2
  simp only [at_append, fold_append] at hk2
  have h0 : (noughts n).getD k 0 = 0 := by simp [noughts, List.getD, hk]
  rw [h0] at hk2
  have e : fold (at_ [r] k) = r.getD k 0 := by show fold [r.getD k 0] = _; rw [fold, fold, Nat.xor_zero]
  rw [e] at hk2
  have h3 := congrArg (fun x => x ^^^ r.getD k 0) hk2
  simp only [Nat.zero_xor] at h3
  rw [← h3]
  generalize r.getD k 0 = x
  generalize fold (at_ a k) = p
  generalize fold (at_ b k) = q
  rw [Nat.xor_assoc (p ^^^ x), Nat.xor_comm q x, ← Nat.xor_assoc, Nat.xor_assoc p x x, Nat.xor_self, Nat.xor_zero]

end Go.Proofs.Ytljhpdgjajhgbaa.Xr
