/-
  Lists of bytes that came in: a slice of slices. By an AI agent.
-/
import Derived.Test.YtffpjefecmkfmaaBGIn
namespace Go.Proofs.Ytffpjefecmkfmaa
open Go.RowKit

/-- One list of bytes: its slice, and the bytes. -/
structure RowD where
  v : Value
  bs : List Int

/-- It lies in a cell. -/
structure RowIn (w : World) (b o : Nat) (d : RowD) : Prop where
  c0 : w.cell? ⟨b, o, none⟩ = some d.v
  sl : Sl w d.v d.bs
  by_ : By d.bs
  big : d.bs.length ≤ 140737488355328

/-- The slice v reads as these lists of bytes. -/
def Rws (w : World) (v : Value) (ds : List RowD) : Prop :=
  (ds = [] ∧ ∃ ao c, v = .slice ao 0 c) ∨ ∃ b o c, v = .slice (some ⟨b, o, none⟩) ds.length c ∧ b < w.heap.size ∧ ds.length ≤ 140737488355328 ∧ ∀ i d, ds[i]? = some d → RowIn w b (o + i) d

theorem Rws.slice {w : World} {v : Value} {ds : List RowD} (h : Rws w v ds) : ∃ ao c, v = .slice ao ds.length c := by
  rcases h with ⟨rfl, ao, c, rfl⟩ | ⟨b, o, cp, rfl, _⟩
  · exact ⟨ao, c, rfl⟩
  · exact ⟨_, _, rfl⟩

theorem Rws.len {w : World} {v : Value} {ds : List RowD} (h : Rws w v ds) : ds.length ≤ 140737488355328 := by
  rcases h with ⟨rfl, _⟩ | ⟨b, o, cp, rfl, _, h, _⟩
  · simp
  · exact h

/-- The i-th of them. -/
theorem Rws.at {w : World} {ao : Option Addr} {n c : Nat} {ds : List RowD} (h : Rws w (.slice ao n c) ds) {i : Nat} {d : RowD} (hi : ds[i]? = some d) : ∃ b o, ao = some ⟨b, o, none⟩ ∧ b < w.heap.size ∧ RowIn w b (o + i) d := by
  rcases h with ⟨rfl, _⟩ | ⟨b, o, cp, hv, hb, _, h⟩
  · simp at hi
  · obtain ⟨rfl, -, -⟩ : ao = some ⟨b, o, none⟩ ∧ n = ds.length ∧ c = cp := by simpa using hv
    exact ⟨b, o, rfl, hb, h i d hi⟩

theorem Sl.chgNil {w w' : World} {v : Value} {xs : List Int} (h : Sl w v xs) (c : Chg [] w w') : Sl w' v xs := h.chg c (fun _ _ => by simp)

/-- They read the same while nothing that was there is turned. -/
theorem Rws.chg {w w' : World} {v : Value} {ds : List RowD} (h : Rws w v ds) (c : Chg [] w w') : Rws w' v ds := by
  rcases h with h | ⟨b, o, cp, rfl, hb, hl, h⟩
  · exact .inl h
  · refine .inr ⟨b, o, cp, rfl, Nat.lt_of_lt_of_le hb c.size, hl, fun i d hd => ?_⟩
    have k := h i d hd
    exact ⟨(c.cell (p := ⟨b, o + i, none⟩) hb (by simp)).trans k.c0, k.sl.chgNil c, k.by_, k.big⟩

end Go.Proofs.Ytffpjefecmkfmaa
namespace Go.Proofs.Ytffpjefecmkfmaa
open Go.RowKit

/-- A patch: its member, its row, its bytes and their slice. -/
structure PtD where
  m : Int
  r : Int
  v : Value
  d : List Int

/-- It lies at b, o. -/
structure PtIn (w : World) (b o : Nat) (p : PtD) : Prop where
  c0 : w.cell? ⟨b, o, none⟩ = some (.int .i64 p.m)
  c1 : w.cell? ⟨b, o + 1, none⟩ = some (.int .i64 p.r)
  c2 : w.cell? ⟨b, o + 2, none⟩ = some p.v
  sl : Sl w p.v p.d
  big : p.d.length ≤ 140737488355328

/-- The slice v reads as these. -/
def Pts (w : World) (v : Value) (ds : List PtD) : Prop :=
  (ds = [] ∧ ∃ ao c, v = .slice ao 0 c) ∨ ∃ b o c, v = .slice (some ⟨b, o, none⟩) ds.length c ∧ b < w.heap.size ∧ ds.length ≤ 140737488355328 ∧ ∀ i d, ds[i]? = some d → PtIn w b (o + i * 3) d

theorem Pts.slice {w : World} {v : Value} {ds : List PtD} (h : Pts w v ds) : ∃ ao c, v = .slice ao ds.length c := by
  rcases h with ⟨rfl, ao, c, rfl⟩ | ⟨b, o, cp, rfl, _⟩
  · exact ⟨ao, c, rfl⟩
  · exact ⟨_, _, rfl⟩

theorem Pts.len {w : World} {v : Value} {ds : List PtD} (h : Pts w v ds) : ds.length ≤ 140737488355328 := by
  rcases h with ⟨rfl, _⟩ | ⟨b, o, cp, rfl, _, h, _⟩
  · simp
  · exact h

/-- The i-th of them. -/
theorem Pts.at {w : World} {ao : Option Addr} {n c : Nat} {ds : List PtD} (h : Pts w (.slice ao n c) ds) {i : Nat} {d : PtD} (hi : ds[i]? = some d) : ∃ b o, ao = some ⟨b, o, none⟩ ∧ b < w.heap.size ∧ PtIn w b (o + i * 3) d := by
  rcases h with ⟨rfl, _⟩ | ⟨b, o, cp, hv, hb, _, h⟩
  · simp at hi
  · obtain ⟨rfl, -, -⟩ : ao = some ⟨b, o, none⟩ ∧ n = ds.length ∧ c = cp := by simpa using hv
    exact ⟨b, o, rfl, hb, h i d hi⟩

theorem PtIn.chg {w w' : World} {s : List Nat} {b o : Nat} {d : PtD} (k : PtIn w b o d) (hb : b < w.heap.size) (c : Chg s w w') (hs : b ∉ s) (hv : ∀ g, d.v.ownBlock = some g → g ∉ s) : PtIn w' b o d :=
  ⟨(c.cell (p := ⟨b, _, none⟩) hb hs).trans k.c0, (c.cell (p := ⟨b, _, none⟩) hb hs).trans k.c1, (c.cell (p := ⟨b, _, none⟩) hb hs).trans k.c2, k.sl.chg c hv, k.big⟩

/-- They read the same while nothing that was there is turned. -/
theorem Pts.chg {w w' : World} {v : Value} {ds : List PtD} (h : Pts w v ds) (c : Chg [] w w') : Pts w' v ds := by
  rcases h with h | ⟨b, o, cp, rfl, hb, hl, h⟩
  · exact .inl h
  · exact .inr ⟨b, o, cp, rfl, Nat.lt_of_lt_of_le hb c.size, hl, fun i d hd => (h i d hd).chg hb c (by simp) (by simp)⟩

/-- A list of one patch, in a new block. -/
theorem Pts.one (w : World) (p : PtD) (t : TypeId) (h : Sl w p.v p.d) (hl : p.d.length ≤ 140737488355328) :
    Pts (w.alloc (.cells #[.int .i64 p.m, .int .i64 p.r, p.v] t)) (.slice (some ⟨w.heap.size, 0, none⟩) 1 1) [p] := by
  have B := Blk.made w [.int .i64 p.m, .int .i64 p.r, p.v] t
  refine .inr ⟨w.heap.size, 0, 1, rfl, B.lt, by simp, fun i d hd => ?_⟩
  have hi : i = 0 := by have := (List.getElem?_eq_some_iff.1 hd).1; simp at this; exact this
  subst hi
  obtain rfl : p = d := by simpa using hd
  exact ⟨B.cell (j := 0) rfl, B.cell (j := 1) rfl, B.cell (j := 2) rfl, h.chg (s := []) ((Chg.refl _ _).alloc _) (by simp), hl⟩

/-- What two patches have in common, all of it. -/
def PtD.alike (p q : PtD) : Prop := p.m = q.m ∧ p.r = q.r ∧ p.d = q.d

end Go.Proofs.Ytffpjefecmkfmaa
