/-
  What a layout of blocks answers, the program's or the document's: the answers' shapes. By an AI agent.
-/
import Derived.Test.YtheplbjlfkjncaaGmCount
import Derived.Test.YtheplbjlfkjncaaGOwnMem
import Derived.Test.YtheplbjlfkjncaaGInMore
namespace Go.Proofs.Ytheplbjlfkjncaa
open Go.RowKit

/-- Numbers of a geometry that is valid. -/
def Gm.valid (m c t : Int) : Prop := 3 ≤ m ∧ m ≤ 16 ∧ 1 ≤ c ∧ c ≤ 16 ∧ 1 ≤ t ∧ t ≤ 256

theorem Gm.valid_ok {m c t : Int} (h : Gm.valid m c t) : ∃ g : Gm, g.Ok ∧ m = (g.n : Int) ∧ c = (g.k : Int) ∧ t = (g.s : Int) := by
  obtain ⟨h1, h2, h3, h4, h5, h6⟩ := h
  exact ⟨⟨m.toNat, c.toNat, t.toNat⟩, ⟨⟨by simp only; omega, by simp only; omega⟩, ⟨by simp only; omega, by simp only; omega⟩, by simp only; omega, by simp only; omega⟩, by simp only; omega, by simp only; omega, by simp only; omega⟩

/-- Where it is not. -/
theorem Gm.bad {m c t : Int} (h : ¬ Gm.valid m c t) : m < 3 ∨ (¬ m < 3 ∧ 16 < m) ∨ (¬ m < 3 ∧ ¬ 16 < m ∧ c < 1) ∨ (¬ m < 3 ∧ ¬ 16 < m ∧ ¬ c < 1 ∧ 16 < c) ∨ (¬ m < 3 ∧ ¬ 16 < m ∧ ¬ c < 1 ∧ ¬ 16 < c ∧ t < 1) ∨ (¬ m < 3 ∧ ¬ 16 < m ∧ ¬ c < 1 ∧ ¬ 16 < c ∧ ¬ t < 1 ∧ 256 < t) := by
  unfold Gm.valid at h
  omega

/-- A geometry, as it is handed in. -/
def gmV (m c t : Int) : Value := .agg #[.int .i64 m, .int .i64 c, .int .i64 t]

/-- A place, as it is handed out. -/
def placeV (a b c d : Nat) : Value := .agg #[.int .i64 (a : Int), .int .i64 (b : Int), .int .i64 (c : Int), .int .i64 (d : Int)]

def Gm.placeV (g : Gm) (b : Nat) : Value := Go.Proofs.Ytheplbjlfkjncaa.placeV (g.stripe b) (g.row b) (g.member b) (g.par (g.stripe b))

/-- An answer: memory stays as it was, but for what is new. -/
def Says (w : World) (v : Value) (e : Ending) (w' : World) : Prop := e = .returned v ∧ Hid (Chg [] w w')

/-- A list of members, in memory of its own, and an error. -/
def SaysList (w : World) (l : List Nat) (er : Value) (e : Ending) (w' : World) : Prop :=
  ∃ u, e = .returned (.tuple #[u, er]) ∧ Hid (w'.ownsRow w.heap.size 3 1 u l.length ((ints l).map (Value.int .i64))) ∧ Hid (Chg [] w w')

/-! ### the numbers, as they are reckoned -/

theorem Gm.le_rows {g : Gm} (h : g.Ok) : g.rows ≤ 4096 := Nat.mul_le_mul h.s.2 h.k.2
theorem Gm.le_each {g : Gm} (h : g.Ok) : g.each ≤ 240 := by
  have h1 : g.n - 1 ≤ 15 := by have := h.n; omega
  exact Nat.mul_le_mul h1 h.k.2
theorem Gm.le_blocks {g : Gm} (h : g.Ok) : g.blocks ≤ 61440 := by
  have h1 : g.n - 1 ≤ 15 := by have := h.n; omega
  exact Nat.mul_le_mul (Gm.le_rows h) h1

end Go.Proofs.Ytheplbjlfkjncaa
