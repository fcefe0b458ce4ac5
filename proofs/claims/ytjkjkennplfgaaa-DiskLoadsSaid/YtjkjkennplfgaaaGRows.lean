/-
  Lists of bytes that came in: a slice of slices. By an AI agent.
-/
import Derived.Test.YtjkjkennplfgaaaGIn
namespace Go.Proofs.Ytjkjkennplfgaaa
open Go.RowKit

/-- One list of bytes: its slice, and the bytes. -/
structure RowD where
  v : Value
  bs : List Int

/-- It lies in a cell. -/
structure RowIn (w : World) (b o : Nat) (d : RowD) : Prop where
  c0 : w.cell? ⟨b, o, none⟩ = some d.v
  sl : Sl w d.v d.bs
  by_ : By d.bs
  big : d.bs.length ≤ 140737488355328

/-- The slice v reads as these lists of bytes. -/
def Rws (w : World) (v : Value) (ds : List RowD) : Prop :=
  (ds = [] ∧ ∃ ao c, v = .slice ao 0 c) ∨ ∃ b o c, v = .slice (some ⟨b, o, none⟩) ds.length c ∧ b < w.heap.size ∧ ds.length ≤ 140737488355328 ∧ ∀ i d, ds[i]? = some d → RowIn w b (o + i) d

theorem Rws.slice {w : World} {v : Value} {ds : List RowD} (h : Rws w v ds) : ∃ ao c, v = .slice ao ds.length c := by
  rcases h with ⟨rfl, ao, c, rfl⟩ | ⟨b, o, cp, rfl, _⟩
  · exact ⟨ao, c, rfl⟩
  · exact ⟨_, _, rfl⟩

theorem Rws.len {w : World} {v : Value} {ds : List RowD} (h : Rws w v ds) : ds.length ≤ 140737488355328 := by
  rcases h with ⟨rfl, _⟩ | ⟨b, o, cp, rfl, _, h, _⟩
  · simp
  · exact h

/-- The i-th of them. -/
theorem Rws.at {w : World} {ao : Option Addr} {n c : Nat} {ds : List RowD} (h : Rws w (.slice ao n c) ds) {i : Nat} {d : RowD} (hi : ds[i]? = some d) : ∃ b o, ao = some ⟨b, o, none⟩ ∧ b < w.heap.size ∧ RowIn w b (o + i) d := by
  rcases h with ⟨rfl, _⟩ | ⟨b, o, cp, hv, hb, _, h⟩
  · simp at hi
  · obtain ⟨rfl, -, -⟩ : ao = some ⟨b, o, none⟩ ∧ n = ds.length ∧ c = cp := by simpa using hv
    exact ⟨b, o, rfl, hb, h i d hi⟩

theorem Sl.chgNil {w w' : World} {v : Value} {xs : List Int} (h : Sl w v xs) (c : Chg [] w w') : Sl w' v xs := h.chg c (fun _ _ => by simp)

/-- They read the same while nothing that was there is turned. -/
theorem Rws.chg {w w' : World} {v : Value} {ds : List RowD} (h : Rws w v ds) (c : Chg [] w w') : Rws w' v ds := by
  rcases h with h | ⟨b, o, cp, rfl, hb, hl, h⟩
  · exact .inl h
  · refine .inr ⟨b, o, cp, rfl, Nat.lt_of_lt_of_le hb c.size, hl, fun i d hd => ?_⟩
    have k := h i d hd
    exact ⟨(c.cell (p := ⟨b, o + i, none⟩) hb (by simp)).trans k.c0, k.sl.chgNil c, k.by_, k.big⟩

section
open Go.ChangeShapes Go.WideShapes Go.Deep Go.ChangeAt
variable {H : Type} {enc : TypeId × Value → H} {W : World}

theorem cells_row : Try.prog.cellsOf 22 = 1 := by kernel_rfl
theorem bytes_row : 0 < Try.prog.bytesOf 22 := of_decide_eq_true (by kernel_rfl)

theorem open_rows {fuel : Nat} {v : Value} {x : DataW H × List MemPlace} (h : DataW.trod enc Try.prog W 0 (fun _ => true) true fuel 40 [v] = some x) (hf : Fits 40 x.1) : ∃ ds, Rws W v ds := by
  rcases open_slice1 Try.underlying40 cells_row h with ⟨hcs, hx⟩ | ⟨a, len, cap, m, n, V, D, Pl, hcs, _, hl, hm, hmm, hx, hi⟩
  · obtain rfl : v = .slice none 0 0 := by simpa using hcs
    exact ⟨[], .inl ⟨rfl, _, _, rfl⟩⟩
  · obtain rfl : v = .slice (some a) len cap := by simpa using hcs
    simp only [if_true] at hmm
    subst hx
    have hbig : len ≤ 140737488355328 := by
      have h1 := Fits.len hf Try.underlying40
      have h2 := bytes_row
      simp only [List.length_map, List.length_range, reachBytes] at h1
      have h3 : len ≤ (len + (m - len)) * Try.prog.bytesOf 22 := Nat.le_trans (Nat.le_add_right _ _) (Nat.le_mul_of_pos_right _ h2)
      omega
    by_cases h0 : len = 0
    · subst h0
      exact ⟨[], .inl ⟨rfl, _, _, rfl⟩⟩
    · have hsp : a.spot = none ∧ a.block < W.heap.size := by
        have h1 : W.cell? a = some (V 0) := by simpa [Addr.add] using (hi 0 (by omega)).1
        exact ⟨by simpa using World.cell?_spot h1, World.block_lt_of_cell? W _ h1⟩
      obtain ⟨b, off, spot⟩ := a
      obtain ⟨rfl, hb⟩ : spot = none ∧ b < W.heap.size := hsp
      have hex : ∀ i, i < len → ∃ d, RowIn W b (off + i) d := by
        intro i hil
        obtain ⟨c0, t0⟩ := hi i (by omega)
        have hfit : Fits 22 (D i) := Fits.elem hf Try.underlying40 (List.mem_map.2 ⟨i, List.mem_range.2 hil, rfl⟩)
        obtain ⟨xs, hs, hby, hbg⟩ := open_bytes_fit t0 hfit
        rw [Addr.add_lit] at c0
        exact ⟨⟨V i, xs⟩, c0, hs, hby, hbg⟩
      have : Inhabited RowD := ⟨⟨undef, []⟩⟩
      obtain ⟨f, hfn⟩ := Go.Deep.choose_lt hex
      refine ⟨(List.range len).map f, .inr ⟨b, off, cap, by simp, hb, by simpa using hbig, fun i d hd => ?_⟩⟩
      rw [List.getElem?_map] at hd
      obtain ⟨i', hi', rfl⟩ := Option.map_eq_some_iff.1 hd
      obtain ⟨h1, h2⟩ := List.getElem?_eq_some_iff.1 hi'
      rw [List.getElem_range] at h2
      subst h2
      exact hfn i (by simpa using h1)

theorem open_rows_cap {fuel : Nat} {v : Value} {x : DataW H × List MemPlace} (h : DataW.trod enc Try.prog W 0 (fun _ => true) true fuel 40 [v] = some x) : ∀ ao n c, v = .slice ao n c → n ≤ c := by
  intro ao n c e
  rcases open_slice1 Try.underlying40 cells_row h with ⟨hcs, hx⟩ | ⟨a, len, cap, m, n', V, D, Pl, hcs, _, hl, hm, hmm, hx, hi⟩
  · obtain rfl : v = .slice none 0 0 := by simpa using hcs
    simp at e
    omega
  · obtain rfl : v = .slice (some a) len cap := by simpa using hcs
    simp at e
    omega
end
end Go.Proofs.Ytjkjkennplfgaaa
