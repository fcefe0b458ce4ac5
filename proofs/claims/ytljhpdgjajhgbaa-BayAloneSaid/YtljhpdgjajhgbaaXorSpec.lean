/-
  What rows of bytes come to, in the document's words. No function of the program is named here. By an AI agent.
-/
import Derived.Test.YtljhpdgjajhgbaaGRows
import Derived.Test.YtljhpdgjajhgbaaGNats
import Derived.Test.YtljhpdgjajhgbaaXorMath
namespace Go.Proofs.Ytljhpdgjajhgbaa
open Go.RowKit

/-- Rows that came in, as numbers. -/
def rowsN (ds : List RowD) : List (List Nat) := ds.map fun d => nats d.bs

theorem rowsN_length (ds : List RowD) : (rowsN ds).length = ds.length := by simp [rowsN]

theorem rowsN_get {ds : List RowD} {k : Nat} {d : RowD} (h : ds[k]? = some d) : (rowsN ds)[k]? = some (nats d.bs) := by simp [rowsN, h]

/-- Have all rows one length? -/
def sameLen (rs : List (List Nat)) : Bool := rs.all fun r => r.length == (rs.headD []).length

def ofErr (rs : List (List Nat)) : Nat := if rs = [] then 1 else if sameLen rs = true then 0 else 4
def ofVal (rs : List (List Nat)) : List Nat := if ofErr rs = 0 then Xr.ors (rs.headD []).length rs else []
def evenVal (rs : List (List Nat)) : Bool := ofErr rs == 0 && (ofVal rs).all (· == 0)

def missErr (rs : List (List Nat)) (at_ : Int) : Nat := if at_ < 0 ∨ (rs.length : Int) ≤ at_ ∨ rs.length < 2 then 1 else ofErr (rs.eraseIdx at_.toNat)
def missVal (rs : List (List Nat)) (at_ : Int) : List Nat := if at_ < 0 ∨ (rs.length : Int) ≤ at_ ∨ rs.length < 2 then [] else ofVal (rs.eraseIdx at_.toNat)

/-- The first place at which two rows differ, from the i-th on. -/
def firstFrom (i : Nat) : List Nat → List Nat → Int
  | [], [] => -1
  | [], _ :: _ => i
  | _ :: _, [] => i
  | x :: a, y :: b => if x = y then firstFrom (i + 1) a b else i
def first (a b : List Nat) : Int := firstFrom 0 a b

theorem sameLen_iff {rs : List (List Nat)} : sameLen rs = true ↔ Xr.Len (rs.headD []).length rs := by
  unfold sameLen Xr.Len
  rw [List.all_eq_true]
  constructor
  · intro h r hr; simpa using h r hr
  · intro h r hr; simpa using h r hr

theorem sameLen_ex {rs : List (List Nat)} : sameLen rs = true ↔ ∃ n, Xr.Len n rs := by
  rw [sameLen_iff]
  constructor
  · exact fun h => ⟨_, h⟩
  · rintro ⟨n, h⟩
    cases rs with
    | nil => intro r hr; cases hr
    | cons x r =>
      have : (x :: r).headD [] = x := rfl
      rw [this, h x List.mem_cons_self]
      exact h

theorem ofErr_ok {rs : List (List Nat)} {n : Nat} (h0 : rs ≠ []) (h : Xr.Len n rs) : ofErr rs = 0 := by
  unfold ofErr
  rw [if_neg h0, if_pos (sameLen_ex.2 ⟨n, h⟩)]

theorem ofVal_ok {rs : List (List Nat)} {n : Nat} (h0 : rs ≠ []) (h : Xr.Len n rs) : ofVal rs = Xr.ors n rs := by
  unfold ofVal
  rw [if_pos (ofErr_ok h0 h)]
  cases rs with
  | nil => exact absurd rfl h0
  | cons x r =>
    have : (x :: r).headD [] = x := rfl
    rw [this, h x List.mem_cons_self]

theorem ofVal_bad {rs : List (List Nat)} (h : ofErr rs ≠ 0) : ofVal rs = [] := by
  unfold ofVal
  rw [if_neg h]

theorem len_swap {n : Nat} {a b : List (List Nat)} : Xr.Len n (b ++ a) ↔ Xr.Len n (a ++ b) := by
  unfold Xr.Len
  constructor <;> intro h r hr <;> exact h r (by rw [List.mem_append] at hr ⊢; exact hr.symm)

theorem ofErr_swap (a b : List (List Nat)) : ofErr (b ++ a) = ofErr (a ++ b) := by
  have h1 : (b ++ a = []) ↔ (a ++ b = []) := by simp [and_comm]
  have h2 : (sameLen (b ++ a) = true) ↔ (sameLen (a ++ b) = true) := by rw [sameLen_ex, sameLen_ex]; simp only [len_swap]
  unfold ofErr
  simp only [h1, h2]

theorem ofVal_swap (a b : List (List Nat)) : ofVal (b ++ a) = ofVal (a ++ b) := by
  by_cases h0 : ofErr (a ++ b) = 0
  · have h1 : a ++ b ≠ [] := by
      intro e
      rw [e] at h0
      exact absurd h0 (by decide)
    have h2 : sameLen (a ++ b) = true := by
      unfold ofErr at h0
      rw [if_neg h1] at h0
      by_cases hs : sameLen (a ++ b) = true
      · exact hs
      · rw [if_neg hs] at h0
        exact absurd h0 (by decide)
    obtain ⟨n, hn⟩ := sameLen_ex.1 h2
    have h3 : b ++ a ≠ [] := by
      intro e
      exact h1 (by simpa [and_comm] using e)
    rw [ofVal_ok h1 hn, ofVal_ok h3 (len_swap.2 hn), Xr.ors_swap]
  · rw [ofVal_bad h0, ofVal_bad (by rw [ofErr_swap]; exact h0)]

theorem ofErr_le (rs : List (List Nat)) : ofErr rs = 0 ∨ ofErr rs = 1 ∨ ofErr rs = 4 := by
  unfold ofErr
  split
  · exact .inr (.inl rfl)
  · split
    · exact .inl rfl
    · exact .inr (.inr rfl)

/-- What comes out: bytes in memory of their own, and an error. -/
def Gives (w : World) (xs : List Nat) (err : Nat) (e : Ending) (w' : World) : Prop :=
  ∃ u, e = .returned (.tuple #[u, .int .u16 (err : Int)]) ∧ Hid (w'.ownsRow w.heap.size 5 1 u xs.length ((ints xs).map (Value.int .u8))) ∧ Hid (Chg [] w w')

/-- Bytes alone. -/
def Gives1 (w : World) (xs : List Nat) (e : Ending) (w' : World) : Prop :=
  ∃ u, e = .returned u ∧ Hid (w'.ownsRow w.heap.size 5 1 u xs.length ((ints xs).map (Value.int .u8))) ∧ Hid (Chg [] w w')

theorem own_sl {w : World} {base : Nat} {u : Value} {xs : List Nat} (h : w.ownsRow base 5 1 u xs.length ((ints xs).map (Value.int .u8))) : Sl w u (ints xs) := Sl.owned h

end Go.Proofs.Ytljhpdgjajhgbaa
