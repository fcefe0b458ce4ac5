/-
  What a record's sector is, cut into its parts, and what the three Decodes, Escape and Unescape tell of any bytes. No function of the program is named here. By an AI agent.
-/
import Derived.Test.YtnkdgmnmmmjgjaaRcSpec
namespace Go.Proofs.Ytnkdgmnmmmjgjaa
open Crc

def magicB : List Nat := [83, 80, 74, 76]

def numsOk (ep sq : Nat) : Prop := ep ≤ 4611686018427387904 ∧ 1 ≤ sq ∧ sq ≤ 4611686018427387904
instance (ep sq : Nat) : Decidable (numsOk ep sq) := by unfold numsOk; infer_instance

/-- A header. -/
structure Hd where
  ep : Nat
  sq : Nat
  ix : Int
  ct : Int
  mb : Int
  rw' : Int
  esc : Bool
  sm : Nat

/-- A commit. -/
structure Cm where
  ep : Nat
  sq : Nat
  ct : Int
  sm : Nat

/-- A checkpoint. -/
structure Ck where
  ep : Nat
  sq : Nat
  tl : Int

namespace Hd
def Ok (h : Hd) : Prop := numsOk h.ep h.sq ∧ 1 ≤ h.ct ∧ h.ct ≤ 1023 ∧ 0 ≤ h.ix ∧ h.ix < h.ct ∧ 0 ≤ h.mb ∧ h.mb ≤ 15 ∧ 0 ≤ h.rw' ∧ h.rw' ≤ 4095
instance (h : Hd) : Decidable h.Ok := by unfold Ok; infer_instance
def val (h : Hd) : Value := .agg #[.int .u64 (h.ep : Int), .int .u64 (h.sq : Int), .int .i64 h.ix, .int .i64 h.ct, .int .i64 h.mb, .int .i64 h.rw', .bool h.esc, .int .u32 (h.sm : Int)]
def rec' (h : Hd) : Rec := ⟨1, h.ep, h.sq, [h.ix.toNat, h.ct.toNat, h.mb.toNat, h.rw'.toNat, if h.esc then 1 else 0, h.sm]⟩
def enc (h : Hd) : List Nat := if h.Ok then h.rec'.sector else []
def err (h : Hd) : Int := if h.Ok then 0 else 80
end Hd

namespace Cm
def Ok (h : Cm) : Prop := numsOk h.ep h.sq ∧ 1 ≤ h.ct ∧ h.ct ≤ 1023
instance (h : Cm) : Decidable h.Ok := by unfold Ok; infer_instance
def val (h : Cm) : Value := .agg #[.int .u64 (h.ep : Int), .int .u64 (h.sq : Int), .int .i64 h.ct, .int .u32 (h.sm : Int)]
def rec' (h : Cm) : Rec := ⟨2, h.ep, h.sq, [h.ct.toNat, h.sm]⟩
def enc (h : Cm) : List Nat := if h.Ok then h.rec'.sector else []
def err (h : Cm) : Int := if h.Ok then 0 else 80
end Cm

namespace Ck
def Ok (h : Ck) : Prop := numsOk h.ep h.sq ∧ 0 ≤ h.tl ∧ h.tl ≤ 2047
instance (h : Ck) : Decidable h.Ok := by unfold Ok; infer_instance
def val (h : Ck) : Value := .agg #[.int .u64 (h.ep : Int), .int .u64 (h.sq : Int), .int .i64 h.tl]
def rec' (h : Ck) : Rec := ⟨3, h.ep, h.sq, [h.tl.toNat]⟩
def enc (h : Ck) : List Nat := if h.Ok then h.rec'.sector else []
def err (h : Ck) : Int := if h.Ok then 0 else 80
end Ck

/-- What a sector looks like. -/
def kindOf (b : List Nat) : Nat := if b.length = 128 ∧ b.take 4 = magicB ∧ 1 ≤ b.getD 4 0 ∧ b.getD 4 0 ≤ 3 then b.getD 4 0 else 0

/-- The errors that all three have. -/
def lookOf (k : Nat) (b : List Nat) : Int := if b.length ≠ 128 then 4 else if kindOf b ≠ k then 80 else if rd b 124 4 ≠ sum (b.take 124) then 81 else 0

theorem kindOf_le (b : List Nat) : kindOf b ≤ 3 := by
  unfold kindOf
  split
  next h => exact h.2.2.2
  next => decide

/-- Do bytes begin with these four? -/
def begOf (b m : List Nat) : Bool := decide (b.take 4 = m)

theorem kindOf_eq {b : List Nat} (hl : b.length = 128) : kindOf b = if begOf b magicB = true ∧ 1 ≤ b.getD 4 0 ∧ b.getD 4 0 ≤ 3 then b.getD 4 0 else 0 := by
  unfold kindOf begOf
  simp only [hl, true_and, decide_eq_true_eq]

/-- A sector as it is logged, whether it is escaped, the error. -/
def escV (b : List Nat) : List Nat := if b.length = 128 then (if begOf b magicB = true then List.replicate 4 0 ++ b.drop 4 else b) else []
def escB (b : List Nat) : Bool := decide (b.length = 128) && begOf b magicB
def escE (b : List Nat) : Int := if b.length = 128 then 0 else 4

/-- The sector that was logged so, the error. -/
def uneV (b : List Nat) (es : Bool) : List Nat := if b.length = 128 then (if es = true then (if begOf b (List.replicate 4 0) = true then magicB ++ b.drop 4 else []) else (if begOf b magicB = true then [] else b)) else []
def uneE (b : List Nat) (es : Bool) : Int := if b.length = 128 then (if es = true then (if begOf b (List.replicate 4 0) = true then 0 else 80) else (if begOf b magicB = true then 80 else 0)) else 4

/-- A part of bytes. -/
def cut (b : List Nat) (at_ n : Nat) : List Nat := (b.drop at_).take n

theorem cut_len {b : List Nat} {at_ n : Nat} (h : at_ + n ≤ b.length) : (cut b at_ n).length = n := by
  unfold cut
  rw [List.length_take, List.length_drop]
  omega

theorem cut_bs {b : List Nat} (h : Bs b) (at_ n : Nat) : Bs (cut b at_ n) := fun x hx => h x (List.mem_of_mem_drop (List.mem_of_mem_take hx))

theorem low_rd {b : List Nat} {at_ n : Nat} (hb : Bs b) (h : at_ + n ≤ b.length) : low n (rd b at_ n) = cut b at_ n := by
  have k := low_val (cut_bs hb at_ n)
  rw [cut_len h] at k
  exact k

theorem cut_add (b : List Nat) (at_ n m : Nat) : cut b at_ (n + m) = cut b at_ n ++ cut b (at_ + n) m := by
  unfold cut
  rw [List.take_add, List.drop_drop]

theorem cut_all {b : List Nat} {n : Nat} (h : b.length = n) : cut b 0 n = b := by
  unfold cut
  rw [List.drop_zero, ← h, List.take_length]

theorem cut_zero (b : List Nat) (n : Nat) : cut b 0 n = b.take n := by simp [cut]

theorem cut_one {b : List Nat} {i : Nat} (h : i < b.length) : cut b i 1 = [b.getD i 0] := by
  unfold cut
  rw [List.drop_eq_getElem_cons h, List.take_succ_cons, List.take_zero]
  simp [List.getD, List.getElem?_eq_getElem h]

def noughts (n : Nat) : List Nat := List.replicate n 0

/-- The parts of a sector. -/
theorem parts {b : List Nat} (hl : b.length = 128) (n : Nat) (hn : n ≤ 100) : b.take 124 = b.take 4 ++ cut b 4 4 ++ cut b 8 8 ++ cut b 16 8 ++ cut b 24 n ++ cut b (24 + n) (100 - n) ∧ b = b.take 124 ++ cut b 124 4 := by
  have e : b.take 124 = cut b 0 124 := (cut_zero b 124).symm
  constructor
  · rw [e, show (124 : Nat) = 4 + (4 + (8 + (8 + (n + (100 - n))))) by omega, cut_add, cut_add, cut_add, cut_add, cut_add, cut_zero]
    simp [List.append_assoc]
  · conv => lhs; rw [← cut_all hl, show (128 : Nat) = 124 + 4 from rfl, cut_add]
    rw [e]

/-- When a record's sector is what it was read of. -/
theorem sector_iff {r : Rec} {b : List Nat} (hl : b.length = 128) (hb : Bs b) (hm : b.take 4 = magicB) (he : r.ep = rd b 8 8) (hs : r.sq = rd b 16 8) (hf : r.fs.length ≤ 25) (hsum : rd b 124 4 = sum (b.take 124)) :
    r.sector = b ↔ low 4 r.kind = cut b 4 4 ∧ Rec.tail r.fs = cut b 24 (4 * r.fs.length) ∧ noughts (100 - 4 * r.fs.length) = cut b (24 + 4 * r.fs.length) (100 - 4 * r.fs.length) := by
  obtain ⟨p1, p2⟩ := parts hl (4 * r.fs.length) (by omega)
  have E : r.body = magicB ++ low 4 r.kind ++ cut b 8 8 ++ cut b 16 8 ++ Rec.tail r.fs ++ noughts (100 - 4 * r.fs.length) := by
    unfold Rec.body Rec.begun noughts
    rw [he, hs, low_rd hb (by omega), low_rd hb (by omega)]
    rfl
  have S : low 4 (sum (b.take 124)) = cut b 124 4 := by rw [← hsum]; exact low_rd hb (by omega)
  have B : r.sector = b ↔ r.body = b.take 124 := by
    constructor
    · intro h
      have h1 := congrArg (List.take 124) h
      unfold Rec.sector at h1
      rw [List.take_left' (Rec.body_length hf)] at h1
      exact h1
    · intro h
      unfold Rec.sector
      rw [h, S]
      exact p2.symm
  rw [B, E, p1, hm]
  constructor
  · intro h
    have h1 := List.append_inj' h (by rw [cut_len (by omega)]; simp [noughts])
    have h2 := List.append_inj' h1.1 (by rw [cut_len (by omega), Rec.tail_length])
    have h3 := List.append_inj' h2.1 rfl
    have h4 := List.append_inj' h3.1 rfl
    have h5 := List.append_inj' h4.1 (by rw [cut_len (by omega), low_length])
    exact ⟨h5.2, h2.2, h1.2⟩
  · rintro ⟨h1, h2, h3⟩
    rw [h1, h2, h3]

theorem kind_cut {b : List Nat} {k : Nat} (hl : b.length = 128) (hk : b.getD 4 0 = k) (h3 : k ≤ 3) : low 4 k = cut b 4 4 ↔ cut b 5 3 = noughts 3 := by
  rw [show (4 : Nat) = 1 + 3 from rfl, cut_add, show 1 + 3 = 4 from rfl, cut_one (by omega), hk, show 4 + 1 = 5 from rfl]
  have e : low 4 k = [k] ++ noughts 3 := by
    obtain rfl | rfl | rfl | rfl : k = 0 ∨ k = 1 ∨ k = 2 ∨ k = 3 := by omega
    all_goals rfl
  rw [e]
  constructor
  · intro h; exact (List.append_cancel_left h).symm
  · intro h; rw [h]

theorem kindOf_parts {b : List Nat} {k : Nat} (h : kindOf b = k) (hk : 1 ≤ k) : b.length = 128 ∧ b.take 4 = magicB ∧ b.getD 4 0 = k := by
  unfold kindOf at h
  split at h
  next g => exact ⟨g.1, g.2.1, h⟩
  next => omega

def Hd.of (b : List Nat) : Hd := ⟨rd b 8 8, rd b 16 8, rd b 24 4, rd b 28 4, rd b 32 4, rd b 36 4, decide (b.getD 40 0 = 1), rd b 44 4⟩
def Cm.of (b : List Nat) : Cm := ⟨rd b 8 8, rd b 16 8, rd b 24 4, rd b 28 4⟩
def Ck.of (b : List Nat) : Ck := ⟨rd b 8 8, rd b 16 8, rd b 24 4⟩

theorem lookOf_zero {b : List Nat} {k : Nat} (h : lookOf k b = 0) : b.length = 128 ∧ kindOf b = k ∧ rd b 124 4 = sum (b.take 124) := by
  unfold lookOf at h
  split at h
  next => omega
  next h1 =>
    split at h
    next => omega
    next h2 =>
      split at h
      next => omega
      next h3 => exact ⟨by omega, by omega, by omega⟩

theorem Ck.of_iff {b : List Nat} (hb : Bs b) (h : lookOf 3 b = 0) : (Ck.of b).rec'.sector = b ↔ cut b 5 3 = noughts 3 ∧ cut b 28 96 = noughts 96 := by
  obtain ⟨_, hk, hs⟩ := lookOf_zero h
  obtain ⟨hl, hm, h4⟩ := kindOf_parts hk (by decide)
  rw [sector_iff (r := (Ck.of b).rec') hl hb hm rfl rfl (show 1 ≤ 25 by decide) hs]
  show low 4 3 = cut b 4 4 ∧ Rec.tail [((rd b 24 4 : Nat) : Int).toNat] = cut b 24 4 ∧ noughts 96 = cut b 28 96 ↔ _
  rw [kind_cut hl h4 (by decide), Int.toNat_natCast]
  have e : Rec.tail [rd b 24 4] = cut b 24 4 := by
    show low 4 (rd b 24 4) ++ [] = _
    rw [List.append_nil, low_rd hb (by omega)]
  simp only [e, true_and, eq_comm (a := noughts 96)]

theorem Cm.of_iff {b : List Nat} (hb : Bs b) (h : lookOf 2 b = 0) : (Cm.of b).rec'.sector = b ↔ cut b 5 3 = noughts 3 ∧ cut b 32 92 = noughts 92 := by
  obtain ⟨_, hk, hs⟩ := lookOf_zero h
  obtain ⟨hl, hm, h4⟩ := kindOf_parts hk (by decide)
  rw [sector_iff (r := (Cm.of b).rec') hl hb hm rfl rfl (show 2 ≤ 25 by decide) hs]
  show low 4 2 = cut b 4 4 ∧ Rec.tail [((rd b 24 4 : Nat) : Int).toNat, rd b 28 4] = cut b 24 8 ∧ noughts 92 = cut b 32 92 ↔ _
  rw [kind_cut hl h4 (by decide), Int.toNat_natCast]
  have e : Rec.tail [rd b 24 4, rd b 28 4] = cut b 24 8 := by
    show low 4 (rd b 24 4) ++ (low 4 (rd b 28 4) ++ []) = _
    rw [List.append_nil, low_rd hb (by omega), low_rd hb (by omega), show (8 : Nat) = 4 + 4 from rfl, cut_add]
  simp only [e, true_and, eq_comm (a := noughts 92)]

theorem flag_cut {b : List Nat} (hl : b.length = 128) : low 4 (if decide (b.getD 40 0 = 1) = true then 1 else 0) = cut b 40 4 ↔ b.getD 40 0 ≤ 1 ∧ cut b 41 3 = noughts 3 := by
  rw [show (4 : Nat) = 1 + 3 from rfl, cut_add, show 1 + 3 = 4 from rfl, cut_one (by omega), show 40 + 1 = 41 from rfl]
  generalize b.getD 40 0 = x
  constructor
  · intro h
    by_cases hx : x = 1
    · subst hx
      exact ⟨by decide, (List.append_cancel_left (show [1] ++ noughts 3 = [1] ++ cut b 41 3 from h)).symm⟩
    · simp only [hx, decide_false, Bool.false_eq_true, if_false] at h
      have h1 : (0 : Nat) :: noughts 3 = x :: cut b 41 3 := h
      have h2 := (List.cons.inj h1)
      exact ⟨by omega, h2.2.symm⟩
  · rintro ⟨h1, h2⟩
    rw [h2]
    obtain rfl | rfl : x = 0 ∨ x = 1 := by omega
    all_goals rfl

theorem Hd.of_iff {b : List Nat} (hb : Bs b) (h : lookOf 1 b = 0) : (Hd.of b).rec'.sector = b ↔ cut b 5 3 = noughts 3 ∧ b.getD 40 0 ≤ 1 ∧ cut b 41 3 = noughts 3 ∧ cut b 48 76 = noughts 76 := by
  obtain ⟨_, hk, hs⟩ := lookOf_zero h
  obtain ⟨hl, hm, h4⟩ := kindOf_parts hk (by decide)
  rw [sector_iff (r := (Hd.of b).rec') hl hb hm rfl rfl (show 6 ≤ 25 by decide) hs]
  show low 4 1 = cut b 4 4 ∧ Rec.tail [((rd b 24 4 : Nat) : Int).toNat, ((rd b 28 4 : Nat) : Int).toNat, ((rd b 32 4 : Nat) : Int).toNat, ((rd b 36 4 : Nat) : Int).toNat, if decide (b.getD 40 0 = 1) = true then 1 else 0, rd b 44 4] = cut b 24 24 ∧ noughts 76 = cut b 48 76 ↔ _
  rw [kind_cut hl h4 (by decide), Int.toNat_natCast, Int.toNat_natCast, Int.toNat_natCast, Int.toNat_natCast, ← and_assoc (a := b.getD 40 0 ≤ 1), ← flag_cut hl]
  generalize (if decide (b.getD 40 0 = 1) = true then 1 else 0) = z
  have e : Rec.tail [rd b 24 4, rd b 28 4, rd b 32 4, rd b 36 4, z, rd b 44 4] = cut b 24 24 ↔ low 4 z = cut b 40 4 := by
    show low 4 (rd b 24 4) ++ (low 4 (rd b 28 4) ++ (low 4 (rd b 32 4) ++ (low 4 (rd b 36 4) ++ (low 4 z ++ (low 4 (rd b 44 4) ++ []))))) = _ ↔ _
    rw [List.append_nil, low_rd hb (by omega), low_rd hb (by omega), low_rd hb (by omega), low_rd hb (by omega), low_rd hb (by omega), show (24 : Nat) = 4 + (4 + (4 + (4 + (4 + 4)))) from rfl, cut_add, cut_add, cut_add, cut_add, cut_add]
    constructor
    · intro h
      exact List.append_cancel_right (List.append_cancel_left (List.append_cancel_left (List.append_cancel_left (List.append_cancel_left h))))
    · intro h
      rw [h]
  rw [e, eq_comm (a := noughts 76)]

theorem cut_take {b : List Nat} {m p n : Nat} (h : p + n ≤ m) : cut (b.take m) p n = cut b p n := by
  unfold cut
  rw [List.drop_take, List.take_take, Nat.min_eq_left (by omega)]

theorem rd_take {b : List Nat} {m p n : Nat} (h : p + n ≤ m) : rd (b.take m) p n = rd b p n := by
  have := cut_take (b := b) h
  unfold cut at this
  unfold rd
  rw [this]

/-- The program's error of a decoding. -/
def decErr (k : Nat) (b : List Nat) (p : Nat) (z ok : Bool) : Int :=
  if lookOf k b ≠ 0 then lookOf k b else if ((decide (cut (b.take 124) 5 3 = noughts 3) && z) && decide (cut (b.take 124) p (124 - p) = noughts (124 - p))) && ok then 0 else 80

def Hd.zero : Hd := ⟨0, 0, 0, 0, 0, 0, false, 0⟩
def Cm.zero : Cm := ⟨0, 0, 0, 0⟩
def Ck.zero : Ck := ⟨0, 0, 0⟩

def Hd.derr (b : List Nat) : Int := if lookOf 1 b ≠ 0 then lookOf 1 b else if (Hd.of b).Ok ∧ (Hd.of b).rec'.sector = b then 0 else 80
def Cm.derr (b : List Nat) : Int := if lookOf 2 b ≠ 0 then lookOf 2 b else if (Cm.of b).Ok ∧ (Cm.of b).rec'.sector = b then 0 else 80
def Ck.derr (b : List Nat) : Int := if lookOf 3 b ≠ 0 then lookOf 3 b else if (Ck.of b).Ok ∧ (Ck.of b).rec'.sector = b then 0 else 80

def Hd.dval (b : List Nat) : Hd := if Hd.derr b = 0 then Hd.of b else Hd.zero
def Cm.dval (b : List Nat) : Cm := if Cm.derr b = 0 then Cm.of b else Cm.zero
def Ck.dval (b : List Nat) : Ck := if Ck.derr b = 0 then Ck.of b else Ck.zero

theorem getD_take {b : List Nat} {m i : Nat} (h : i < m) : (b.take m).getD i 0 = b.getD i 0 := by
  simp [List.getD, h]

theorem Hd.of_take (b : List Nat) : Hd.of (b.take 124) = Hd.of b := by
  unfold Hd.of
  rw [rd_take (by decide), rd_take (by decide), rd_take (by decide), rd_take (by decide), rd_take (by decide), rd_take (by decide), rd_take (by decide), getD_take (by decide)]

theorem Cm.of_take (b : List Nat) : Cm.of (b.take 124) = Cm.of b := by
  unfold Cm.of
  rw [rd_take (by decide), rd_take (by decide), rd_take (by decide), rd_take (by decide)]

theorem Ck.of_take (b : List Nat) : Ck.of (b.take 124) = Ck.of b := by
  unfold Ck.of
  rw [rd_take (by decide), rd_take (by decide), rd_take (by decide)]

theorem ite_iff {p q : Prop} [Decidable p] [Decidable q] (h : p ↔ q) (x y : Int) : (if p then x else y) = if q then x else y := by
  by_cases hp : p
  · rw [if_pos hp, if_pos (h.1 hp)]
  · rw [if_neg hp, if_neg (fun k => hp (h.2 k))]

theorem Hd.derr_eq {b : List Nat} (hb : Bs b) : decErr 1 b 48 (decide (cut (b.take 124) 41 3 = noughts 3)) (decide (Hd.of (b.take 124)).Ok && decide ((b.take 124).getD 40 0 ≤ 1)) = Hd.derr b := by
  unfold decErr Hd.derr
  by_cases h : lookOf 1 b = 0
  · rw [if_neg (show ¬ lookOf 1 b ≠ 0 from fun k => k h), if_neg (show ¬ lookOf 1 b ≠ 0 from fun k => k h)]
    refine ite_iff ?_ _ _
    rw [Hd.of_iff hb h, Hd.of_take, getD_take (by decide), cut_take (by decide), cut_take (by decide), cut_take (by decide)]
    simp only [Bool.and_eq_true, decide_eq_true_eq]
    constructor
    · rintro ⟨⟨⟨a, b⟩, c⟩, d, e⟩; exact ⟨d, a, e, b, c⟩
    · rintro ⟨d, a, e, b, c⟩; exact ⟨⟨⟨a, b⟩, c⟩, d, e⟩
  · rw [if_pos (show lookOf 1 b ≠ 0 from h), if_pos (show lookOf 1 b ≠ 0 from h)]

theorem Cm.derr_eq {b : List Nat} (hb : Bs b) : decErr 2 b 32 true (decide (Cm.of (b.take 124)).Ok) = Cm.derr b := by
  unfold decErr Cm.derr
  by_cases h : lookOf 2 b = 0
  · rw [if_neg (show ¬ lookOf 2 b ≠ 0 from fun k => k h), if_neg (show ¬ lookOf 2 b ≠ 0 from fun k => k h)]
    refine ite_iff ?_ _ _
    rw [Cm.of_iff hb h, Cm.of_take, cut_take (by decide), cut_take (by decide)]
    simp only [Bool.and_eq_true, decide_eq_true_eq]
    constructor
    · rintro ⟨⟨⟨a, _⟩, c⟩, d⟩; exact ⟨d, a, c⟩
    · rintro ⟨d, a, c⟩; exact ⟨⟨⟨a, trivial⟩, c⟩, d⟩
  · rw [if_pos (show lookOf 2 b ≠ 0 from h), if_pos (show lookOf 2 b ≠ 0 from h)]

theorem Ck.derr_eq {b : List Nat} (hb : Bs b) : decErr 3 b 28 true (decide (Ck.of (b.take 124)).Ok) = Ck.derr b := by
  unfold decErr Ck.derr
  by_cases h : lookOf 3 b = 0
  · rw [if_neg (show ¬ lookOf 3 b ≠ 0 from fun k => k h), if_neg (show ¬ lookOf 3 b ≠ 0 from fun k => k h)]
    refine ite_iff ?_ _ _
    rw [Ck.of_iff hb h, Ck.of_take, cut_take (by decide), cut_take (by decide)]
    simp only [Bool.and_eq_true, decide_eq_true_eq]
    constructor
    · rintro ⟨⟨⟨a, _⟩, c⟩, d⟩; exact ⟨d, a, c⟩
    · rintro ⟨d, a, c⟩; exact ⟨⟨⟨a, trivial⟩, c⟩, d⟩
  · rw [if_pos (show lookOf 3 b ≠ 0 from h), if_pos (show lookOf 3 b ≠ 0 from h)]

theorem lookOf_in (k : Nat) (b : List Nat) : lookOf k b = 0 ∨ lookOf k b = 4 ∨ lookOf k b = 80 ∨ lookOf k b = 81 := by
  unfold lookOf
  repeat' split
  all_goals simp

theorem Hd.derr_in (b : List Nat) : 0 ≤ Hd.derr b ∧ Hd.derr b ≤ 81 := by
  have := lookOf_in 1 b
  unfold Hd.derr
  repeat' split
  all_goals omega

theorem Cm.derr_in (b : List Nat) : 0 ≤ Cm.derr b ∧ Cm.derr b ≤ 81 := by
  have := lookOf_in 2 b
  unfold Cm.derr
  repeat' split
  all_goals omega

theorem Ck.derr_in (b : List Nat) : 0 ≤ Ck.derr b ∧ Ck.derr b ≤ 81 := by
  have := lookOf_in 3 b
  unfold Ck.derr
  repeat' split
  all_goals omega


theorem sector_take (r : Rec) : r.sector.take 4 = magicB := by
  have e : r.sector = magicB ++ (low 4 r.kind ++ low 8 r.ep ++ low 8 r.sq ++ Rec.tail r.fs ++ List.replicate (100 - 4 * r.fs.length) 0 ++ low 4 (sum r.body)) := by
    unfold Rec.sector
    generalize sum r.body = z
    simp [Rec.body, Rec.begun, magicB]
  rw [e]
  exact List.take_left' rfl

theorem sector_four {r : Rec} (hk : r.kind < 256) : r.sector.getD 4 0 = r.kind := by
  have e : r.sector = magicB ++ (low 4 r.kind ++ low 8 r.ep ++ low 8 r.sq ++ Rec.tail r.fs ++ List.replicate (100 - 4 * r.fs.length) 0 ++ low 4 (sum r.body)) := by
    unfold Rec.sector
    generalize sum r.body = z
    simp [Rec.body, Rec.begun, magicB]
  rw [e, low]
  simp [magicB, List.getD]
  omega

theorem sector_eight {r : Rec} (hk : r.kind < 256) : r.sector.take 8 = magicB ++ [r.kind, 0, 0, 0] := by
  have e : r.sector = (magicB ++ low 4 r.kind) ++ (low 8 r.ep ++ low 8 r.sq ++ Rec.tail r.fs ++ List.replicate (100 - 4 * r.fs.length) 0 ++ low 4 (sum r.body)) := by
    unfold Rec.sector
    generalize sum r.body = z
    simp [Rec.body, Rec.begun, magicB]
  rw [e, List.take_left' (by rw [List.length_append, low_length]; rfl)]
  congr 1
  simp [low]
  omega

theorem kindOf_sector {r : Rec} (hf : r.fs.length ≤ 25) (h1 : 1 ≤ r.kind) (h3 : r.kind ≤ 3) : kindOf r.sector = r.kind := by
  unfold kindOf
  rw [Rec.sector_length hf, sector_take, sector_four (by omega), if_pos ⟨rfl, rfl, h1, h3⟩]

theorem sector_body {r : Rec} (hf : r.fs.length ≤ 25) : r.sector.take 124 = r.body := by
  unfold Rec.sector
  exact List.take_left' (Rec.body_length hf)

theorem lookOf_sector (k : Nat) {r : Rec} (hf : r.fs.length ≤ 25) (h1 : 1 ≤ r.kind) (h3 : r.kind ≤ 3) : lookOf k r.sector = if r.kind = k then 0 else 80 := by
  unfold lookOf
  rw [if_neg (by rw [Rec.sector_length hf]; simp), kindOf_sector hf h1 h3, Rec.rd_sum hf, sector_body hf]
  by_cases hk : r.kind = k
  · rw [if_neg (by simp [hk]), if_neg (by simp), if_pos hk]
  · rw [if_pos hk, if_neg hk]

theorem Hd.of_sector (h : Hd) (ok : h.Ok) (hsm : h.sm < 4294967296) : Hd.of h.rec'.sector = h := by
  obtain ⟨⟨a1, a2, a3⟩, b1, b2, b3, b4, b5, b6, b7, b8⟩ := ok
  have e1 : rd h.rec'.sector 8 8 = h.ep := Rec.rd_ep (show h.ep < _ by omega)
  have e2 : rd h.rec'.sector 16 8 = h.sq := Rec.rd_sq (show h.sq < _ by omega)
  have f0 : rd h.rec'.sector 24 4 = h.ix.toNat := Rec.rd_field (i := 0) rfl (by omega)
  have f1 : rd h.rec'.sector 28 4 = h.ct.toNat := Rec.rd_field (i := 1) rfl (by omega)
  have f2 : rd h.rec'.sector 32 4 = h.mb.toNat := Rec.rd_field (i := 2) rfl (by omega)
  have f3 : rd h.rec'.sector 36 4 = h.rw'.toNat := Rec.rd_field (i := 3) rfl (by omega)
  have f4 : rd h.rec'.sector 40 4 = (if h.esc = true then 1 else 0) := Rec.rd_field (i := 4) rfl (by split <;> decide)
  have f5 : rd h.rec'.sector 44 4 = h.sm := Rec.rd_field (i := 5) rfl hsm
  have hl : h.rec'.sector.length = 128 := Rec.sector_length (show 6 ≤ 25 by decide)
  have hb := Rec.sector_bs h.rec'
  have e40 : decide (h.rec'.sector.getD 40 0 = 1) = h.esc := by
    have k := low_rd (at_ := 40) (n := 4) hb (by omega)
    rw [f4, show (4 : Nat) = 1 + 3 from rfl, cut_add, cut_one (by omega)] at k
    generalize h.rec'.sector.getD 40 0 = x at *
    have k2 : low 4 (if h.esc = true then 1 else 0) = x :: cut h.rec'.sector 41 3 := k
    rcases hes : h.esc with _ | _
    · rw [hes] at k2
      have := (List.cons.inj (show (0 : Nat) :: [0, 0, 0] = x :: cut h.rec'.sector 41 3 from k2)).1
      subst this
      rfl
    · rw [hes] at k2
      have := (List.cons.inj (show (1 : Nat) :: [0, 0, 0] = x :: cut h.rec'.sector 41 3 from k2)).1
      subst this
      rfl
  unfold Hd.of
  rw [e1, e2, f0, f1, f2, f3, f5, e40]
  obtain ⟨ep, sq, ix, ct, mb, rw1, es, sm⟩ := h
  simp only at *
  rw [Int.toNat_of_nonneg b3, Int.toNat_of_nonneg (show 0 ≤ ct by omega), Int.toNat_of_nonneg b5, Int.toNat_of_nonneg b7]

theorem Cm.of_sector (h : Cm) (ok : h.Ok) (hsm : h.sm < 4294967296) : Cm.of h.rec'.sector = h := by
  obtain ⟨⟨a1, a2, a3⟩, b1, b2⟩ := ok
  have e1 : rd h.rec'.sector 8 8 = h.ep := Rec.rd_ep (show h.ep < _ by omega)
  have e2 : rd h.rec'.sector 16 8 = h.sq := Rec.rd_sq (show h.sq < _ by omega)
  have f0 : rd h.rec'.sector 24 4 = h.ct.toNat := Rec.rd_field (i := 0) rfl (by omega)
  have f1 : rd h.rec'.sector 28 4 = h.sm := Rec.rd_field (i := 1) rfl hsm
  unfold Cm.of
  rw [e1, e2, f0, f1]
  obtain ⟨ep, sq, ct, sm⟩ := h
  simp only at *
  rw [Int.toNat_of_nonneg (show 0 ≤ ct by omega)]

theorem Ck.of_sector (h : Ck) (ok : h.Ok) : Ck.of h.rec'.sector = h := by
  obtain ⟨⟨a1, a2, a3⟩, b1, b2⟩ := ok
  have e1 : rd h.rec'.sector 8 8 = h.ep := Rec.rd_ep (show h.ep < _ by omega)
  have e2 : rd h.rec'.sector 16 8 = h.sq := Rec.rd_sq (show h.sq < _ by omega)
  have f0 : rd h.rec'.sector 24 4 = h.tl.toNat := Rec.rd_field (i := 0) rfl (by omega)
  unfold Ck.of
  rw [e1, e2, f0]
  obtain ⟨ep, sq, tl⟩ := h
  simp only at *
  rw [Int.toNat_of_nonneg b1]

theorem Hd.back (h : Hd) (ok : h.Ok) (hsm : h.sm < 4294967296) : Hd.derr h.rec'.sector = 0 ∧ Hd.dval h.rec'.sector = h := by
  have e : Hd.derr h.rec'.sector = 0 := by
    unfold Hd.derr
    rw [lookOf_sector 1 (r := h.rec') (show 6 ≤ 25 by decide) (show 1 ≤ 1 by decide) (show 1 ≤ 3 by decide), if_pos (show h.rec'.kind = 1 from rfl), if_neg (by decide), Hd.of_sector h ok hsm, if_pos ⟨ok, rfl⟩]
  exact ⟨e, by unfold Hd.dval; rw [if_pos e, Hd.of_sector h ok hsm]⟩

theorem Cm.back (h : Cm) (ok : h.Ok) (hsm : h.sm < 4294967296) : Cm.derr h.rec'.sector = 0 ∧ Cm.dval h.rec'.sector = h := by
  have e : Cm.derr h.rec'.sector = 0 := by
    unfold Cm.derr
    rw [lookOf_sector 2 (r := h.rec') (show 2 ≤ 25 by decide) (show 1 ≤ 2 by decide) (show 2 ≤ 3 by decide), if_pos (show h.rec'.kind = 2 from rfl), if_neg (by decide), Cm.of_sector h ok hsm, if_pos ⟨ok, rfl⟩]
  exact ⟨e, by unfold Cm.dval; rw [if_pos e, Cm.of_sector h ok hsm]⟩

theorem Ck.back (h : Ck) (ok : h.Ok) : Ck.derr h.rec'.sector = 0 ∧ Ck.dval h.rec'.sector = h := by
  have e : Ck.derr h.rec'.sector = 0 := by
    unfold Ck.derr
    rw [lookOf_sector 3 (r := h.rec') (show 1 ≤ 25 by decide) (show 1 ≤ 3 by decide) (show 3 ≤ 3 by decide), if_pos (show h.rec'.kind = 3 from rfl), if_neg (by decide), Ck.of_sector h ok, if_pos ⟨ok, rfl⟩]
  exact ⟨e, by unfold Ck.dval; rw [if_pos e, Ck.of_sector h ok]⟩

/-- Of another kind it is refused. -/
theorem other_kind {r : Rec} (hf : r.fs.length ≤ 25) (h1 : 1 ≤ r.kind) (h3 : r.kind ≤ 3) : (r.kind ≠ 1 → Hd.derr r.sector = 80) ∧ (r.kind ≠ 2 → Cm.derr r.sector = 80) ∧ (r.kind ≠ 3 → Ck.derr r.sector = 80) := by
  refine ⟨fun h => ?_, fun h => ?_, fun h => ?_⟩
  · unfold Hd.derr
    rw [lookOf_sector 1 hf h1 h3, if_neg h, if_pos (by decide)]
  · unfold Cm.derr
    rw [lookOf_sector 2 hf h1 h3, if_neg h, if_pos (by decide)]
  · unfold Ck.derr
    rw [lookOf_sector 3 hf h1 h3, if_neg h, if_pos (by decide)]

/-- What is read well is sealed. -/
theorem sealed_of {b : List Nat} (r : Rec) (h : r.sector = b) : reg ones b = thr 32 ones := by rw [← h]; exact r.sector_sealed

theorem Hd.good {b : List Nat} (h : Hd.derr b = 0) : reg ones b = thr 32 ones := by
  unfold Hd.derr at h
  split at h
  next k => exact absurd h k
  next k =>
    split at h
    next g => exact sealed_of _ g.2
    next => cases h

theorem Cm.good {b : List Nat} (h : Cm.derr b = 0) : reg ones b = thr 32 ones := by
  unfold Cm.derr at h
  split at h
  next k => exact absurd h k
  next k =>
    split at h
    next g => exact sealed_of _ g.2
    next => cases h

theorem Ck.good {b : List Nat} (h : Ck.derr b = 0) : reg ones b = thr 32 ones := by
  unfold Ck.derr at h
  split at h
  next k => exact absurd h k
  next k =>
    split at h
    next g => exact sealed_of _ g.2
    next => cases h

end Go.Proofs.Ytnkdgmnmmmjgjaa
