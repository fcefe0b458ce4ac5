/-
  More that came in: ints, bools, bools' rows; structs whose fields take one cell each. By an AI agent.
-/
import Derived.Test.YtffpjefecmkfmaaBGIn
import Derived.Test.YtffpjefecmkfmaaBGOwnMem
import Derived.Deep.Grids
namespace Go.Proofs.Ytffpjefecmkfmaa
open Go.RowKit

section
open Go.ChangeShapes Go.WideShapes Go.Deep
variable {H : Type} {enc : TypeId × Value → H} {P : Program} {w : World} {base : Nat} {spare : Nat → Bool} {held : Bool}
theorem open_slice_fields {t e : TypeId} {fs : Array Field} {fuel : Nat} {cs : List Value} {x : DataW H × List MemPlace} (ht : P.underlying t = some (.slice e)) (he : P.underlying e = some (.struct fs))
    (hone : oneCellFields P fs = true) (hC : P.cellsOf e = fs.size) (h : DataW.trod enc P w base spare held fuel t cs = some x) :
    (cs = [.slice none 0 0] ∧ x = (.nil, [])) ∨
    ∃ (a : Addr) (len cap m : Nat) (D : Nat → DataW H) (Pl : Nat → List MemPlace), cs = [.slice (some a) len cap] ∧ base ≤ a.block ∧ len ≤ cap ∧ cap ≤ maxLen ∧ m = (if spare a.block then cap else len) ∧
      x = (.slice ((List.range len).map D) ((List.range (m - len)).map fun j => D (len + j)), MemPlace.row a (m * fs.size) ++ (List.range m).flatMap Pl) ∧
      ∀ i, i < m → ∃ (ys : List (DataW H × List MemPlace)) (n : Nat), D i = .agg (ys.map (·.1)) ∧ Pl i = ys.flatMap (·.2) ∧ ys.length = fs.size ∧
        ∀ (j : Nat) (f : Field), fs[j]? = some f → ∃ (v : Value) (y : DataW H × List MemPlace), w.cell? (a.add (i * fs.size + j)) = some v ∧ ys[j]? = some y ∧ DataW.trod enc P w base spare held n f.type [v] = some y := by
  rcases open_slice ht h with h0 | ⟨a, len, cap, m, n, D, Pl, hcs, hb, hl, hm, hmm, hx, hi⟩
  · exact .inl h0
  · refine .inr ⟨a, len, cap, m, D, Pl, hcs, hb, hl, hm, hmm, by rw [hC] at hx; exact hx, fun i him => ?_⟩
    obtain ⟨cs', hc, ht'⟩ := hi i him
    rw [hC] at hc
    obtain ⟨ys, n', hn', hy, hlen, hyl, hf⟩ := DataW.trod_struct he ht'
    obtain ⟨_, hcl, hat⟩ := World.cells?_some hc
    simp only [Prod.mk.injEq] at hy
    refine ⟨ys, n', hy.1, hy.2, hyl, fun j f hj => ?_⟩
    obtain ⟨ho, hk⟩ := hone_of hone j f hj
    have hjl : j < fs.size := (Array.getElem?_eq_some_iff.1 hj).1
    have hcell := hat j hjl
    have hv : cs'[j]? = some (cs'[j]'(by omega)) := List.getElem?_eq_getElem (by omega)
    have h1 := hf j f hj
    rw [ho, hk] at h1
    have hone' : (cs'.drop j).take 1 = [cs'[j]'(by omega)] := by
      rw [List.drop_eq_getElem_cons (by omega)]
      rfl
    rw [hone'] at h1
    have hys : ys[j]? = some (ys[j]'(by omega)) := List.getElem?_eq_getElem (by omega)
    refine ⟨_, _, ?_, hys, h1.trans hys⟩
    rw [← Go.Deep.add_add, hcell, hv]
end

theorem RdV.chgNil {w w' : World} {v : Value} {xs : List Value} (h : RdV w v xs) (c : Chg [] w w') : RdV w' v xs := h.chg c (fun _ _ => by simp)

theorem Rws.chgNil {w w' : World} {v : Value} {ds : List RowD} (h : Rws w v ds) (c : Chg [] w w') : Rws w' v ds := h.chg c

section
open Go.ChangeShapes Go.WideShapes Go.Deep Go.ChangeAt
variable {H : Type} {enc : TypeId × Value → H} {W : World}

theorem cells_bool : Try.prog.cellsOf 4 = 1 := by kernel_rfl
theorem bytes_bool : Try.prog.bytesOf 4 = 1 := by kernel_rfl

/-- Bools that came in, by their fit. -/
theorem open_bools_fit {fuel : Nat} {v : Value} {x : DataW H × List MemPlace} (h : DataW.trod enc Try.prog W 0 (fun _ => true) true fuel 55 [v] = some x) (hf : Fits 55 x.1) :
    ∃ bs : List Bool, RdV W v (bs.map Value.bool) ∧ bs.length ≤ 140737488355328 := by
  rcases open_bools Try.underlying55 Try.underlying4 cells_bool h with ⟨hcs, hx⟩ | H0
  · obtain rfl : v = .slice none 0 0 := by simpa using hcs
    exact ⟨[], .inl ⟨rfl, _, _, rfl⟩, by simp⟩
  · obtain ⟨a, len, cap, B, hcs, _, hl, hm, hx, hcell⟩ := H0
    obtain rfl : v = .slice (some a) len cap := by simpa using hcs
    have hbig : len ≤ 140737488355328 := by
      subst hx
      have := Fits.len hf Try.underlying55
      rw [bytes_bool] at this
      simp only [List.length_map, List.length_range, reachBytes] at this
      omega
    by_cases h0 : len = 0
    · subst h0
      exact ⟨[], .inl ⟨rfl, _, _, rfl⟩, by simp⟩
    · obtain ⟨b, off, spot⟩ := a
      obtain rfl : spot = none := by simpa [Addr.add] using World.cell?_spot (hcell 0 (by omega))
      refine ⟨(List.range len).map B, .inr ⟨b, off, cap, by simp, ?_, fun j u hj => ?_⟩, by simpa using hbig⟩
      · have := hcell 0 (by omega)
        exact World.block_lt_of_cell? W _ this
      · have hjl : j < len := by
          have := (List.getElem?_eq_some_iff.1 hj).1
          simpa using this
        have := hcell j (by omega)
        rw [Addr.add_lit] at this
        rw [this, ← hj]
        simp [hjl]

theorem cells_int : Try.prog.cellsOf 3 = 1 := by kernel_rfl
theorem bytes_int : Try.prog.bytesOf 3 = 8 := by kernel_rfl

/-- Numbers as an int has them. -/
def Is (zs : List Int) : Prop := ∀ z ∈ zs, -9223372036854775808 ≤ z ∧ z ≤ 9223372036854775807

/-- One list of bools: its slice, and the bools. -/
structure BoolD where
  v : Value
  bs : List Bool

/-- It lies in a cell. -/
structure BoolIn (w : World) (b o : Nat) (d : BoolD) : Prop where
  c0 : w.cell? ⟨b, o, none⟩ = some d.v
  rd : RdV w d.v (d.bs.map Value.bool)
  big : d.bs.length ≤ 140737488355328

/-- The slice v reads as these lists of bools. -/
def BRs (w : World) (v : Value) (ds : List BoolD) : Prop :=
  (ds = [] ∧ ∃ ao c, v = .slice ao 0 c) ∨ ∃ b o c, v = .slice (some ⟨b, o, none⟩) ds.length c ∧ b < w.heap.size ∧ ds.length ≤ 140737488355328 ∧ ∀ i d, ds[i]? = some d → BoolIn w b (o + i) d

theorem BRs.slice {w : World} {v : Value} {ds : List BoolD} (h : BRs w v ds) : ∃ ao c, v = .slice ao ds.length c := by
  rcases h with ⟨rfl, ao, c, rfl⟩ | ⟨b, o, cp, rfl, _⟩
  · exact ⟨ao, c, rfl⟩
  · exact ⟨_, _, rfl⟩

theorem BRs.len {w : World} {v : Value} {ds : List BoolD} (h : BRs w v ds) : ds.length ≤ 140737488355328 := by
  rcases h with ⟨rfl, _⟩ | ⟨b, o, cp, rfl, _, h, _⟩
  · simp
  · exact h

theorem BRs.at {w : World} {ao : Option Addr} {n c : Nat} {ds : List BoolD} (h : BRs w (.slice ao n c) ds) {i : Nat} {d : BoolD} (hi : ds[i]? = some d) : ∃ b o, ao = some ⟨b, o, none⟩ ∧ b < w.heap.size ∧ BoolIn w b (o + i) d := by
  rcases h with ⟨rfl, _⟩ | ⟨b, o, cp, hv, hb, _, h⟩
  · simp at hi
  · obtain ⟨rfl, -, -⟩ : ao = some ⟨b, o, none⟩ ∧ n = ds.length ∧ c = cp := by simpa using hv
    exact ⟨b, o, rfl, hb, h i d hi⟩

theorem BRs.chgNil {w w' : World} {v : Value} {ds : List BoolD} (h : BRs w v ds) (c : Chg [] w w') : BRs w' v ds := by
  rcases h with h | ⟨b, o, cp, rfl, hb, hl, h⟩
  · exact .inl h
  · refine .inr ⟨b, o, cp, rfl, Nat.lt_of_lt_of_le hb c.size, hl, fun i d hd => ?_⟩
    have k := h i d hd
    exact ⟨(c.cell (p := ⟨b, o + i, none⟩) hb (by simp)).trans k.c0, k.rd.chgNil c, k.big⟩

theorem cells_bools : Try.prog.cellsOf 55 = 1 := by kernel_rfl
theorem bytes_bools : 0 < Try.prog.bytesOf 55 := of_decide_eq_true (by kernel_rfl)

end
end Go.Proofs.Ytffpjefecmkfmaa
