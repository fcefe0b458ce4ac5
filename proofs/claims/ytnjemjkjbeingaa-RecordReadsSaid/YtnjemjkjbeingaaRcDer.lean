/-
  What the three Decodes tell of any bytes. No function of the program is named here. By an AI agent.
-/
import Derived.Test.YtnjemjkjbeingaaRcPDec
namespace Go.Proofs.Ytnjemjkjbeingaa
open Crc

def Hd.zero : Hd := ⟨0, 0, 0, 0, 0, 0, false, 0⟩
def Cm.zero : Cm := ⟨0, 0, 0, 0⟩
def Ck.zero : Ck := ⟨0, 0, 0⟩

def Hd.derr (b : List Nat) : Int := if lookOf 1 b ≠ 0 then lookOf 1 b else if (Hd.of b).Ok ∧ (Hd.of b).rec'.sector = b then 0 else 80
def Cm.derr (b : List Nat) : Int := if lookOf 2 b ≠ 0 then lookOf 2 b else if (Cm.of b).Ok ∧ (Cm.of b).rec'.sector = b then 0 else 80
def Ck.derr (b : List Nat) : Int := if lookOf 3 b ≠ 0 then lookOf 3 b else if (Ck.of b).Ok ∧ (Ck.of b).rec'.sector = b then 0 else 80

def Hd.dval (b : List Nat) : Hd := if Hd.derr b = 0 then Hd.of b else Hd.zero
def Cm.dval (b : List Nat) : Cm := if Cm.derr b = 0 then Cm.of b else Cm.zero
def Ck.dval (b : List Nat) : Ck := if Ck.derr b = 0 then Ck.of b else Ck.zero

theorem getD_take {b : List Nat} {m i : Nat} (h : i < m) : (b.take m).getD i 0 = b.getD i 0 := by
  simp [List.getD, h]

theorem Hd.of_take (b : List Nat) : Hd.of (b.take 124) = Hd.of b := by
  unfold Hd.of
  rw [rd_take (by decide), rd_take (by decide), rd_take (by decide), rd_take (by decide), rd_take (by decide), rd_take (by decide), rd_take (by decide), getD_take (by decide)]

theorem Cm.of_take (b : List Nat) : Cm.of (b.take 124) = Cm.of b := by
  unfold Cm.of
  rw [rd_take (by decide), rd_take (by decide), rd_take (by decide), rd_take (by decide)]

theorem Ck.of_take (b : List Nat) : Ck.of (b.take 124) = Ck.of b := by
  unfold Ck.of
  rw [rd_take (by decide), rd_take (by decide), rd_take (by decide)]

theorem ite_iff {p q : Prop} [Decidable p] [Decidable q] (h : p ↔ q) (x y : Int) : (if p then x else y) = if q then x else y := by
  by_cases hp : p
  · rw [if_pos hp, if_pos (h.1 hp)]
  · rw [if_neg hp, if_neg (fun k => hp (h.2 k))]

theorem Hd.derr_eq {b : List Nat} (hb : Bs b) : decErr 1 b 48 (decide (cut (b.take 124) 41 3 = noughts 3)) (decide (Hd.of (b.take 124)).Ok && decide ((b.take 124).getD 40 0 ≤ 1)) = Hd.derr b := by
  unfold decErr Hd.derr
  by_cases h : lookOf 1 b = 0
  · rw [if_neg (show ¬ lookOf 1 b ≠ 0 from fun k => k h), if_neg (show ¬ lookOf 1 b ≠ 0 from fun k => k h)]
    refine ite_iff ?_ _ _
    rw [Hd.of_iff hb h, Hd.of_take, getD_take (by decide), cut_take (by decide), cut_take (by decide), cut_take (by decide)]
    simp only [Bool.and_eq_true, decide_eq_true_eq]
    constructor
    · rintro ⟨⟨⟨a, b⟩, c⟩, d, e⟩; exact ⟨d, a, e, b, c⟩
    · rintro ⟨d, a, e, b, c⟩; exact ⟨⟨⟨a, b⟩, c⟩, d, e⟩
  · rw [if_pos (show lookOf 1 b ≠ 0 from h), if_pos (show lookOf 1 b ≠ 0 from h)]

theorem Cm.derr_eq {b : List Nat} (hb : Bs b) : decErr 2 b 32 true (decide (Cm.of (b.take 124)).Ok) = Cm.derr b := by
  unfold decErr Cm.derr
  by_cases h : lookOf 2 b = 0
  · rw [if_neg (show ¬ lookOf 2 b ≠ 0 from fun k => k h), if_neg (show ¬ lookOf 2 b ≠ 0 from fun k => k h)]
    refine ite_iff ?_ _ _
    rw [Cm.of_iff hb h, Cm.of_take, cut_take (by decide), cut_take (by decide)]
    simp only [Bool.and_eq_true, decide_eq_true_eq]
    constructor
    · rintro ⟨⟨⟨a, _⟩, c⟩, d⟩; exact ⟨d, a, c⟩
    · rintro ⟨d, a, c⟩; exact ⟨⟨⟨a, trivial⟩, c⟩, d⟩
  · rw [if_pos (show lookOf 2 b ≠ 0 from h), if_pos (show lookOf 2 b ≠ 0 from h)]

theorem Ck.derr_eq {b : List Nat} (hb : Bs b) : decErr 3 b 28 true (decide (Ck.of (b.take 124)).Ok) = Ck.derr b := by
  unfold decErr Ck.derr
  by_cases h : lookOf 3 b = 0
  · rw [if_neg (show ¬ lookOf 3 b ≠ 0 from fun k => k h), if_neg (show ¬ lookOf 3 b ≠ 0 from fun k => k h)]
    refine ite_iff ?_ _ _
    rw [Ck.of_iff hb h, Ck.of_take, cut_take (by decide), cut_take (by decide)]
    simp only [Bool.and_eq_true, decide_eq_true_eq]
    constructor
    · rintro ⟨⟨⟨a, _⟩, c⟩, d⟩; exact ⟨d, a, c⟩
    · rintro ⟨d, a, c⟩; exact ⟨⟨⟨a, trivial⟩, c⟩, d⟩
  · rw [if_pos (show lookOf 3 b ≠ 0 from h), if_pos (show lookOf 3 b ≠ 0 from h)]

theorem lookOf_in (k : Nat) (b : List Nat) : lookOf k b = 0 ∨ lookOf k b = 4 ∨ lookOf k b = 80 ∨ lookOf k b = 81 := by
  unfold lookOf
  repeat' split
  all_goals simp

theorem Hd.derr_in (b : List Nat) : 0 ≤ Hd.derr b ∧ Hd.derr b ≤ 81 := by
  have := lookOf_in 1 b
  unfold Hd.derr
  repeat' split
  all_goals omega

theorem Cm.derr_in (b : List Nat) : 0 ≤ Cm.derr b ∧ Cm.derr b ≤ 81 := by
  have := lookOf_in 2 b
  unfold Cm.derr
  repeat' split
  all_goals omega

theorem Ck.derr_in (b : List Nat) : 0 ≤ Ck.derr b ∧ Ck.derr b ≤ 81 := by
  have := lookOf_in 3 b
  unfold Ck.derr
  repeat' split
  all_goals omega


theorem sector_take (r : Rec) : r.sector.take 4 = magicB := by
  have e : r.sector = magicB ++ (low 4 r.kind ++ low 8 r.ep ++ low 8 r.sq ++ Rec.tail r.fs ++ List.replicate (100 - 4 * r.fs.length) 0 ++ low 4 (sum r.body)) := by
    unfold Rec.sector
    generalize sum r.body = z
    simp [Rec.body, Rec.begun, magicB]
  rw [e]
  exact List.take_left' rfl

theorem sector_four {r : Rec} (hk : r.kind < 256) : r.sector.getD 4 0 = r.kind := by
  have e : r.sector = magicB ++ (low 4 r.kind ++ low 8 r.ep ++ low 8 r.sq ++ Rec.tail r.fs ++ List.replicate (100 - 4 * r.fs.length) 0 ++ low 4 (sum r.body)) := by
    unfold Rec.sector
    generalize sum r.body = z
    simp [Rec.body, Rec.begun, magicB]
  rw [e, low]
  simp [magicB, List.getD]
  omega

theorem sector_eight {r : Rec} (hk : r.kind < 256) : r.sector.take 8 = magicB ++ [r.kind, 0, 0, 0] := by
  have e : r.sector = (magicB ++ low 4 r.kind) ++ (low 8 r.ep ++ low 8 r.sq ++ Rec.tail r.fs ++ List.replicate (100 - 4 * r.fs.length) 0 ++ low 4 (sum r.body)) := by
    unfold Rec.sector
    generalize sum r.body = z
    simp [Rec.body, Rec.begun, magicB]
  rw [e, List.take_left' (by rw [List.length_append, low_length]; rfl)]
  congr 1
  simp [low]
  omega

theorem kindOf_sector {r : Rec} (hf : r.fs.length ≤ 25) (h1 : 1 ≤ r.kind) (h3 : r.kind ≤ 3) : kindOf r.sector = r.kind := by
  unfold kindOf
  rw [Rec.sector_length hf, sector_take, sector_four (by omega), if_pos ⟨rfl, rfl, h1, h3⟩]

theorem sector_body {r : Rec} (hf : r.fs.length ≤ 25) : r.sector.take 124 = r.body := by
  unfold Rec.sector
  exact List.take_left' (Rec.body_length hf)

theorem lookOf_sector (k : Nat) {r : Rec} (hf : r.fs.length ≤ 25) (h1 : 1 ≤ r.kind) (h3 : r.kind ≤ 3) : lookOf k r.sector = if r.kind = k then 0 else 80 := by
  unfold lookOf
  rw [if_neg (by rw [Rec.sector_length hf]; simp), kindOf_sector hf h1 h3, Rec.rd_sum hf, sector_body hf]
  by_cases hk : r.kind = k
  · rw [if_neg (by simp [hk]), if_neg (by simp), if_pos hk]
  · rw [if_pos hk, if_neg hk]

theorem Hd.of_sector (h : Hd) (ok : h.Ok) (hsm : h.sm < 4294967296) : Hd.of h.rec'.sector = h := by
  obtain ⟨⟨a1, a2, a3⟩, b1, b2, b3, b4, b5, b6, b7, b8⟩ := ok
  have e1 : rd h.rec'.sector 8 8 = h.ep := Rec.rd_ep (show h.ep < _ by omega)
  have e2 : rd h.rec'.sector 16 8 = h.sq := Rec.rd_sq (show h.sq < _ by omega)
  have f0 : rd h.rec'.sector 24 4 = h.ix.toNat := Rec.rd_field (i := 0) rfl (by omega)
  have f1 : rd h.rec'.sector 28 4 = h.ct.toNat := Rec.rd_field (i := 1) rfl (by omega)
  have f2 : rd h.rec'.sector 32 4 = h.mb.toNat := Rec.rd_field (i := 2) rfl (by omega)
  have f3 : rd h.rec'.sector 36 4 = h.rw'.toNat := Rec.rd_field (i := 3) rfl (by omega)
  have f4 : rd h.rec'.sector 40 4 = (if h.esc = true then 1 else 0) := Rec.rd_field (i := 4) rfl (by split <;> decide)
  have f5 : rd h.rec'.sector 44 4 = h.sm := Rec.rd_field (i := 5) rfl hsm
  have hl : h.rec'.sector.length = 128 := Rec.sector_length (show 6 ≤ 25 by decide)
  have hb := Rec.sector_bs h.rec'
  have e40 : decide (h.rec'.sector.getD 40 0 = 1) = h.esc := by
    have k := low_rd (at_ := 40) (n := 4) hb (by omega)
    rw [f4, show (4 : Nat) = 1 + 3 from rfl, cut_add, cut_one (by omega)] at k
    generalize h.rec'.sector.getD 40 0 = x at *
    have k2 : low 4 (if h.esc = true then 1 else 0) = x :: cut h.rec'.sector 41 3 := k
    rcases hes : h.esc with _ | _
    · rw [hes] at k2
      have := (List.cons.inj (show (0 : Nat) :: [0, 0, 0] = x :: cut h.rec'.sector 41 3 from k2)).1
      subst this
      rfl
    · rw [hes] at k2
      have := (List.cons.inj (show (1 : Nat) :: [0, 0, 0] = x :: cut h.rec'.sector 41 3 from k2)).1
      subst this
      rfl
  unfold Hd.of
  rw [e1, e2, f0, f1, f2, f3, f5, e40]
  obtain ⟨ep, sq, ix, ct, mb, rw1, es, sm⟩ := h
  simp only at *
  rw [Int.toNat_of_nonneg b3, Int.toNat_of_nonneg (show 0 ≤ ct by omega), Int.toNat_of_nonneg b5, Int.toNat_of_nonneg b7]

theorem Cm.of_sector (h : Cm) (ok : h.Ok) (hsm : h.sm < 4294967296) : Cm.of h.rec'.sector = h := by
  obtain ⟨⟨a1, a2, a3⟩, b1, b2⟩ := ok
  have e1 : rd h.rec'.sector 8 8 = h.ep := Rec.rd_ep (show h.ep < _ by omega)
  have e2 : rd h.rec'.sector 16 8 = h.sq := Rec.rd_sq (show h.sq < _ by omega)
  have f0 : rd h.rec'.sector 24 4 = h.ct.toNat := Rec.rd_field (i := 0) rfl (by omega)
  have f1 : rd h.rec'.sector 28 4 = h.sm := Rec.rd_field (i := 1) rfl hsm
  unfold Cm.of
  rw [e1, e2, f0, f1]
  obtain ⟨ep, sq, ct, sm⟩ := h
  simp only at *
  rw [Int.toNat_of_nonneg (show 0 ≤ ct by omega)]

theorem Ck.of_sector (h : Ck) (ok : h.Ok) : Ck.of h.rec'.sector = h := by
  obtain ⟨⟨a1, a2, a3⟩, b1, b2⟩ := ok
  have e1 : rd h.rec'.sector 8 8 = h.ep := Rec.rd_ep (show h.ep < _ by omega)
  have e2 : rd h.rec'.sector 16 8 = h.sq := Rec.rd_sq (show h.sq < _ by omega)
  have f0 : rd h.rec'.sector 24 4 = h.tl.toNat := Rec.rd_field (i := 0) rfl (by omega)
  unfold Ck.of
  rw [e1, e2, f0]
  obtain ⟨ep, sq, tl⟩ := h
  simp only at *
  rw [Int.toNat_of_nonneg b1]

theorem Hd.back (h : Hd) (ok : h.Ok) (hsm : h.sm < 4294967296) : Hd.derr h.rec'.sector = 0 ∧ Hd.dval h.rec'.sector = h := by
  have e : Hd.derr h.rec'.sector = 0 := by
    unfold Hd.derr
    rw [lookOf_sector 1 (r := h.rec') (show 6 ≤ 25 by decide) (show 1 ≤ 1 by decide) (show 1 ≤ 3 by decide), if_pos (show h.rec'.kind = 1 from rfl), if_neg (by decide), Hd.of_sector h ok hsm, if_pos ⟨ok, rfl⟩]
  exact ⟨e, by unfold Hd.dval; rw [if_pos e, Hd.of_sector h ok hsm]⟩

theorem Cm.back (h : Cm) (ok : h.Ok) (hsm : h.sm < 4294967296) : Cm.derr h.rec'.sector = 0 ∧ Cm.dval h.rec'.sector = h := by
  have e : Cm.derr h.rec'.sector = 0 := by
    unfold Cm.derr
    rw [lookOf_sector 2 (r := h.rec') (show 2 ≤ 25 by decide) (show 1 ≤ 2 by decide) (show 2 ≤ 3 by decide), if_pos (show h.rec'.kind = 2 from rfl), if_neg (by decide), Cm.of_sector h ok hsm, if_pos ⟨ok, rfl⟩]
  exact ⟨e, by unfold Cm.dval; rw [if_pos e, Cm.of_sector h ok hsm]⟩

theorem Ck.back (h : Ck) (ok : h.Ok) : Ck.derr h.rec'.sector = 0 ∧ Ck.dval h.rec'.sector = h := by
  have e : Ck.derr h.rec'.sector = 0 := by
    unfold Ck.derr
    rw [lookOf_sector 3 (r := h.rec') (show 1 ≤ 25 by decide) (show 1 ≤ 3 by decide) (show 3 ≤ 3 by decide), if_pos (show h.rec'.kind = 3 from rfl), if_neg (by decide), Ck.of_sector h ok, if_pos ⟨ok, rfl⟩]
  exact ⟨e, by unfold Ck.dval; rw [if_pos e, Ck.of_sector h ok]⟩

/-- Of another kind it is refused. -/
theorem other_kind {r : Rec} (hf : r.fs.length ≤ 25) (h1 : 1 ≤ r.kind) (h3 : r.kind ≤ 3) : (r.kind ≠ 1 → Hd.derr r.sector = 80) ∧ (r.kind ≠ 2 → Cm.derr r.sector = 80) ∧ (r.kind ≠ 3 → Ck.derr r.sector = 80) := by
  refine ⟨fun h => ?_, fun h => ?_, fun h => ?_⟩
  · unfold Hd.derr
    rw [lookOf_sector 1 hf h1 h3, if_neg h, if_pos (by decide)]
  · unfold Cm.derr
    rw [lookOf_sector 2 hf h1 h3, if_neg h, if_pos (by decide)]
  · unfold Ck.derr
    rw [lookOf_sector 3 hf h1 h3, if_neg h, if_pos (by decide)]

/-- What is read well is sealed. -/
theorem sealed_of {b : List Nat} (r : Rec) (h : r.sector = b) : reg ones b = thr 32 ones := by rw [← h]; exact r.sector_sealed

theorem Hd.good {b : List Nat} (h : Hd.derr b = 0) : reg ones b = thr 32 ones := by
  unfold Hd.derr at h
  split at h
  next k => exact absurd h k
  next k =>
    split at h
    next g => exact sealed_of _ g.2
    next => cases h

theorem Cm.good {b : List Nat} (h : Cm.derr b = 0) : reg ones b = thr 32 ones := by
  unfold Cm.derr at h
  split at h
  next k => exact absurd h k
  next k =>
    split at h
    next g => exact sealed_of _ g.2
    next => cases h

theorem Ck.good {b : List Nat} (h : Ck.derr b = 0) : reg ones b = thr 32 ones := by
  unfold Ck.derr at h
  split at h
  next k => exact absurd h k
  next k =>
    split at h
    next g => exact sealed_of _ g.2
    next => cases h

end Go.Proofs.Ytnjemjkjbeingaa
