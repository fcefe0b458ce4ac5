/-
  A record's sector, cut into its parts: when it is the encoding of what it tells. No function of the program is named here. By an AI agent.
-/
import Derived.Test.YtnjemjkjbeingaaRcKind
import Derived.Test.YtnjemjkjbeingaaRcEnc
namespace Go.Proofs.Ytnjemjkjbeingaa
open Crc

/-- A part of bytes. -/
def cut (b : List Nat) (at_ n : Nat) : List Nat := (b.drop at_).take n

theorem cut_len {b : List Nat} {at_ n : Nat} (h : at_ + n ≤ b.length) : (cut b at_ n).length = n := by
  unfold cut
  rw [List.length_take, List.length_drop]
  omega

theorem cut_bs {b : List Nat} (h : Bs b) (at_ n : Nat) : Bs (cut b at_ n) := fun x hx => h x (List.mem_of_mem_drop (List.mem_of_mem_take hx))

theorem low_rd {b : List Nat} {at_ n : Nat} (hb : Bs b) (h : at_ + n ≤ b.length) : low n (rd b at_ n) = cut b at_ n := by
  have k := low_val (cut_bs hb at_ n)
  rw [cut_len h] at k
  exact k

theorem cut_add (b : List Nat) (at_ n m : Nat) : cut b at_ (n + m) = cut b at_ n ++ cut b (at_ + n) m := by
  unfold cut
  rw [List.take_add, List.drop_drop]

theorem cut_all {b : List Nat} {n : Nat} (h : b.length = n) : cut b 0 n = b := by
  unfold cut
  rw [List.drop_zero, ← h, List.take_length]

theorem cut_zero (b : List Nat) (n : Nat) : cut b 0 n = b.take n := by simp [cut]

theorem cut_one {b : List Nat} {i : Nat} (h : i < b.length) : cut b i 1 = [b.getD i 0] := by
  unfold cut
  rw [List.drop_eq_getElem_cons h, List.take_succ_cons, List.take_zero]
  simp [List.getD, List.getElem?_eq_getElem h]

def noughts (n : Nat) : List Nat := List.replicate n 0

/-- The parts of a sector. -/
theorem parts {b : List Nat} (hl : b.length = 128) (n : Nat) (hn : n ≤ 100) : b.take 124 = b.take 4 ++ cut b 4 4 ++ cut b 8 8 ++ cut b 16 8 ++ cut b 24 n ++ cut b (24 + n) (100 - n) ∧ b = b.take 124 ++ cut b 124 4 := by
  have e : b.take 124 = cut b 0 124 := (cut_zero b 124).symm
  constructor
  · rw [e, show (124 : Nat) = 4 + (4 + (8 + (8 + (n + (100 - n))))) by omega, cut_add, cut_add, cut_add, cut_add, cut_add, cut_zero]
    simp [List.append_assoc]
  · conv => lhs; rw [← cut_all hl, show (128 : Nat) = 124 + 4 from rfl, cut_add]
    rw [e]

/-- When a record's sector is what it was read of. -/
theorem sector_iff {r : Rec} {b : List Nat} (hl : b.length = 128) (hb : Bs b) (hm : b.take 4 = magicB) (he : r.ep = rd b 8 8) (hs : r.sq = rd b 16 8) (hf : r.fs.length ≤ 25) (hsum : rd b 124 4 = sum (b.take 124)) :
    r.sector = b ↔ low 4 r.kind = cut b 4 4 ∧ Rec.tail r.fs = cut b 24 (4 * r.fs.length) ∧ noughts (100 - 4 * r.fs.length) = cut b (24 + 4 * r.fs.length) (100 - 4 * r.fs.length) := by
  obtain ⟨p1, p2⟩ := parts hl (4 * r.fs.length) (by omega)
  have E : r.body = magicB ++ low 4 r.kind ++ cut b 8 8 ++ cut b 16 8 ++ Rec.tail r.fs ++ noughts (100 - 4 * r.fs.length) := by
    unfold Rec.body Rec.begun noughts
    rw [he, hs, low_rd hb (by omega), low_rd hb (by omega)]
    rfl
  have S : low 4 (sum (b.take 124)) = cut b 124 4 := by rw [← hsum]; exact low_rd hb (by omega)
  have B : r.sector = b ↔ r.body = b.take 124 := by
    constructor
    · intro h
      have h1 := congrArg (List.take 124) h
      unfold Rec.sector at h1
      rw [List.take_left' (Rec.body_length hf)] at h1
      exact h1
    · intro h
      unfold Rec.sector
      rw [h, S]
      exact p2.symm
  rw [B, E, p1, hm]
  constructor
  · intro h
    have h1 := List.append_inj' h (by rw [cut_len (by omega)]; simp [noughts])
    have h2 := List.append_inj' h1.1 (by rw [cut_len (by omega), Rec.tail_length])
    have h3 := List.append_inj' h2.1 rfl
    have h4 := List.append_inj' h3.1 rfl
    have h5 := List.append_inj' h4.1 (by rw [cut_len (by omega), low_length])
    exact ⟨h5.2, h2.2, h1.2⟩
  · rintro ⟨h1, h2, h3⟩
    rw [h1, h2, h3]

theorem kind_cut {b : List Nat} {k : Nat} (hl : b.length = 128) (hk : b.getD 4 0 = k) (h3 : k ≤ 3) : low 4 k = cut b 4 4 ↔ cut b 5 3 = noughts 3 := by
  rw [show (4 : Nat) = 1 + 3 from rfl, cut_add, show 1 + 3 = 4 from rfl, cut_one (by omega), hk, show 4 + 1 = 5 from rfl]
  have e : low 4 k = [k] ++ noughts 3 := by
    obtain rfl | rfl | rfl | rfl : k = 0 ∨ k = 1 ∨ k = 2 ∨ k = 3 := by omega
    all_goals rfl
  rw [e]
  constructor
  · intro h; exact (List.append_cancel_left h).symm
  · intro h; rw [h]

theorem kindOf_parts {b : List Nat} {k : Nat} (h : kindOf b = k) (hk : 1 ≤ k) : b.length = 128 ∧ b.take 4 = magicB ∧ b.getD 4 0 = k := by
  unfold kindOf at h
  split at h
  next g => exact ⟨g.1, g.2.1, h⟩
  next => omega

def Hd.of (b : List Nat) : Hd := ⟨rd b 8 8, rd b 16 8, rd b 24 4, rd b 28 4, rd b 32 4, rd b 36 4, decide (b.getD 40 0 = 1), rd b 44 4⟩
def Cm.of (b : List Nat) : Cm := ⟨rd b 8 8, rd b 16 8, rd b 24 4, rd b 28 4⟩
def Ck.of (b : List Nat) : Ck := ⟨rd b 8 8, rd b 16 8, rd b 24 4⟩

theorem lookOf_zero {b : List Nat} {k : Nat} (h : lookOf k b = 0) : b.length = 128 ∧ kindOf b = k ∧ rd b 124 4 = sum (b.take 124) := by
  unfold lookOf at h
  split at h
  next => omega
  next h1 =>
    split at h
    next => omega
    next h2 =>
      split at h
      next => omega
      next h3 => exact ⟨by omega, by omega, by omega⟩

theorem Ck.of_iff {b : List Nat} (hb : Bs b) (h : lookOf 3 b = 0) : (Ck.of b).rec'.sector = b ↔ cut b 5 3 = noughts 3 ∧ cut b 28 96 = noughts 96 := by
  obtain ⟨_, hk, hs⟩ := lookOf_zero h
  obtain ⟨hl, hm, h4⟩ := kindOf_parts hk (by decide)
  rw [sector_iff (r := (Ck.of b).rec') hl hb hm rfl rfl (show 1 ≤ 25 by decide) hs]
  show low 4 3 = cut b 4 4 ∧ Rec.tail [((rd b 24 4 : Nat) : Int).toNat] = cut b 24 4 ∧ noughts 96 = cut b 28 96 ↔ _
  rw [kind_cut hl h4 (by decide), Int.toNat_natCast]
  have e : Rec.tail [rd b 24 4] = cut b 24 4 := by
    show low 4 (rd b 24 4) ++ [] = _
    rw [List.append_nil, low_rd hb (by omega)]
  simp only [e, true_and, eq_comm (a := noughts 96)]

theorem Cm.of_iff {b : List Nat} (hb : Bs b) (h : lookOf 2 b = 0) : (Cm.of b).rec'.sector = b ↔ cut b 5 3 = noughts 3 ∧ cut b 32 92 = noughts 92 := by
  obtain ⟨_, hk, hs⟩ := lookOf_zero h
  obtain ⟨hl, hm, h4⟩ := kindOf_parts hk (by decide)
  rw [sector_iff (r := (Cm.of b).rec') hl hb hm rfl rfl (show 2 ≤ 25 by decide) hs]
  show low 4 2 = cut b 4 4 ∧ Rec.tail [((rd b 24 4 : Nat) : Int).toNat, rd b 28 4] = cut b 24 8 ∧ noughts 92 = cut b 32 92 ↔ _
  rw [kind_cut hl h4 (by decide), Int.toNat_natCast]
  have e : Rec.tail [rd b 24 4, rd b 28 4] = cut b 24 8 := by
    show low 4 (rd b 24 4) ++ (low 4 (rd b 28 4) ++ []) = _
    rw [List.append_nil, low_rd hb (by omega), low_rd hb (by omega), show (8 : Nat) = 4 + 4 from rfl, cut_add]
  simp only [e, true_and, eq_comm (a := noughts 92)]

theorem flag_cut {b : List Nat} (hl : b.length = 128) : low 4 (if decide (b.getD 40 0 = 1) = true then 1 else 0) = cut b 40 4 ↔ b.getD 40 0 ≤ 1 ∧ cut b 41 3 = noughts 3 := by
  rw [show (4 : Nat) = 1 + 3 from rfl, cut_add, show 1 + 3 = 4 from rfl, cut_one (by omega), show 40 + 1 = 41 from rfl]
  generalize b.getD 40 0 = x
  constructor
  · intro h
    by_cases hx : x = 1
    · subst hx
      exact ⟨by decide, (List.append_cancel_left (show [1] ++ noughts 3 = [1] ++ cut b 41 3 from h)).symm⟩
    · simp only [hx, decide_false, Bool.false_eq_true, if_false] at h
      have h1 : (0 : Nat) :: noughts 3 = x :: cut b 41 3 := h
      have h2 := (List.cons.inj h1)
      exact ⟨by omega, h2.2.symm⟩
  · rintro ⟨h1, h2⟩
    rw [h2]
    obtain rfl | rfl : x = 0 ∨ x = 1 := by omega
    all_goals rfl

theorem Hd.of_iff {b : List Nat} (hb : Bs b) (h : lookOf 1 b = 0) : (Hd.of b).rec'.sector = b ↔ cut b 5 3 = noughts 3 ∧ b.getD 40 0 ≤ 1 ∧ cut b 41 3 = noughts 3 ∧ cut b 48 76 = noughts 76 := by
  obtain ⟨_, hk, hs⟩ := lookOf_zero h
  obtain ⟨hl, hm, h4⟩ := kindOf_parts hk (by decide)
  rw [sector_iff (r := (Hd.of b).rec') hl hb hm rfl rfl (show 6 ≤ 25 by decide) hs]
  show low 4 1 = cut b 4 4 ∧ Rec.tail [((rd b 24 4 : Nat) : Int).toNat, ((rd b 28 4 : Nat) : Int).toNat, ((rd b 32 4 : Nat) : Int).toNat, ((rd b 36 4 : Nat) : Int).toNat, if decide (b.getD 40 0 = 1) = true then 1 else 0, rd b 44 4] = cut b 24 24 ∧ noughts 76 = cut b 48 76 ↔ _
  rw [kind_cut hl h4 (by decide), Int.toNat_natCast, Int.toNat_natCast, Int.toNat_natCast, Int.toNat_natCast, ← and_assoc (a := b.getD 40 0 ≤ 1), ← flag_cut hl]
  generalize (if decide (b.getD 40 0 = 1) = true then 1 else 0) = z
  have e : Rec.tail [rd b 24 4, rd b 28 4, rd b 32 4, rd b 36 4, z, rd b 44 4] = cut b 24 24 ↔ low 4 z = cut b 40 4 := by
    show low 4 (rd b 24 4) ++ (low 4 (rd b 28 4) ++ (low 4 (rd b 32 4) ++ (low 4 (rd b 36 4) ++ (low 4 z ++ (low 4 (rd b 44 4) ++ []))))) = _ ↔ _
    rw [List.append_nil, low_rd hb (by omega), low_rd hb (by omega), low_rd hb (by omega), low_rd hb (by omega), low_rd hb (by omega), show (24 : Nat) = 4 + (4 + (4 + (4 + (4 + 4)))) from rfl, cut_add, cut_add, cut_add, cut_add, cut_add]
    constructor
    · intro h
      exact List.append_cancel_right (List.append_cancel_left (List.append_cancel_left (List.append_cancel_left (List.append_cancel_left h))))
    · intro h
      rw [h]
  rw [e, eq_comm (a := noughts 76)]

end Go.Proofs.Ytnjemjkjbeingaa
