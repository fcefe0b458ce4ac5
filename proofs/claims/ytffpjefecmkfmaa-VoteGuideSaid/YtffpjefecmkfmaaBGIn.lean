/-
  Bytes that came in. By an AI agent.
-/
import Derived.Test.YtffpjefecmkfmaaBLaw
import Derived.Deep.Slices
import Derived.Deep.Fields
import Derived.ChangeSame
import Derived.Test.YtffpjefecmkfmaaBG
namespace Go.Proofs.Ytffpjefecmkfmaa
open Go.RowKit

open Go.ChangeShapes Go.WideShapes Go.Deep Go.ChangeAt
variable {H : Type} {enc : TypeId × Value → H} {W : World}

theorem Sl.below {W w : World} {v : Value} {xs : List Int} (h : Sl W v xs) (hb : Below W.heap.size W w) : Sl w v xs := by
  rcases h with h | ⟨b, o, c, rfl, h1, h2⟩
  · exact .inl h
  · exact .inr ⟨b, o, c, rfl, Nat.lt_of_lt_of_le h1 hb.size, fun j hj => (hb.cell (p := ⟨b, o + j, none⟩) h1).trans (h2 j hj)⟩

/-- What is read takes no more memory than a row lets in. -/
def Fits (t : TypeId) (d : DataW H) : Prop := ∀ n ∈ d.weights Try.prog t, n ≤ reachBytes

theorem Fits.arg {ts : List TypeId} {ds : List (DataW H)} (h : (DataW.weightsEach Try.prog ts ds).all (· ≤ reachBytes) = true) {j : Nat} {t : TypeId} {d : DataW H} (ht : ts[j]? = some t) (hd : ds[j]? = some d) : Fits t d :=
  fun n hn => by simpa using List.all_eq_true.1 h n (DataW.weights_mem_each ht hd n hn)

theorem weights_mem_all {P : Program} {e : TypeId} : ∀ {ds : List (DataW H)} {d : DataW H}, d ∈ ds → ∀ n ∈ d.weights P e, n ∈ DataW.weightsAll P e ds
  | [], _, h, _, _ => by cases h
  | d0 :: ds, d, h, n, hn => by
    simp only [DataW.weightsAll, List.mem_append]
    rcases List.mem_cons.1 h with rfl | h
    · exact .inl hn
    · exact .inr (weights_mem_all h n hn)

theorem Fits.len {t e : TypeId} {elems spare : List (DataW H)} (h : Fits t (.slice elems spare)) (hu : Try.prog.underlying t = some (.slice e)) : (elems.length + spare.length) * Try.prog.bytesOf e ≤ reachBytes :=
  h _ (by simp [DataW.weights, hu])

theorem Fits.elem {t e : TypeId} {elems spare : List (DataW H)} (h : Fits t (.slice elems spare)) (hu : Try.prog.underlying t = some (.slice e)) {d : DataW H} (hd : d ∈ elems) : Fits e d := fun n hn => by
  refine h n ?_
  simp only [DataW.weights, hu, List.mem_cons, List.mem_append]
  exact .inr (.inl (weights_mem_all hd n hn))

theorem Fits.field {t t' : TypeId} {fs : Array Field} {parts : List (DataW H)} (h : Fits t (.agg parts)) (hu : Try.prog.underlying t = some (.struct fs)) {j : Nat} {d : DataW H} (ht : (fs.toList.map (·.type))[j]? = some t') (hd : parts[j]? = some d) : Fits t' d := fun n hn => by
  refine h n ?_
  simp only [DataW.weights, hu]
  exact DataW.weights_mem_each ht hd n hn

theorem bytes_u8 : Try.prog.bytesOf 5 = 1 := by kernel_rfl

theorem cells_u8 : Try.prog.cellsOf 5 = 1 := by kernel_rfl

/-- Bytes that came in, by their fit. -/
theorem open_bytes_fit {fuel : Nat} {v : Value} {x : DataW H × List MemPlace} (h : DataW.trod enc Try.prog W 0 (fun _ => true) true fuel 65 [v] = some x) (hf : Fits 65 x.1) :
    ∃ xs, Sl W v xs ∧ By xs ∧ xs.length ≤ 140737488355328 := by
  rcases open_ints Try.underlying65 Try.underlying5 cells_u8 h with ⟨hcs, hx⟩ | ⟨a, len, cap, zs, hcs, _, hl, hm, hz, hx, hcell, hwz⟩
  · obtain rfl : v = .slice none 0 0 := by simpa using hcs
    exact ⟨[], .inl ⟨rfl, _, _, rfl⟩, By.nil, by simp⟩
  · obtain rfl : v = .slice (some a) len cap := by simpa using hcs
    simp only [if_true] at hz
    have hby : By (zs.take len) := fun y hy => bounds_u8 (hwz y (List.mem_of_mem_take hy))
    have hlen : (zs.take len).length = len := by simp; omega
    have hbig : len ≤ 140737488355328 := by
      subst hx
      have := Fits.len hf Try.underlying65
      rw [bytes_u8] at this
      simp only [lits, List.length_map, List.length_take, List.length_drop, reachBytes] at this
      omega
    by_cases h0 : len = 0
    · subst h0
      exact ⟨[], .inl ⟨rfl, _, _, rfl⟩, By.nil, by simp⟩
    · obtain ⟨b, off, spot⟩ := a
      obtain rfl : spot = none := by simpa [Addr.add] using World.cell?_spot (hcell 0 (by omega))
      refine ⟨zs.take len, .inr ⟨b, off, cap, by rw [hlen], ?_, fun j hj => ?_⟩, hby, by omega⟩
      · have := hcell 0 (by omega)
        exact World.block_lt_of_cell? W _ this
      · have := hcell j (by omega)
        rw [Addr.add_lit] at this
        rw [this]
        congr 2
        simp [List.getD, show j < len by omega]

/-- A slice that came in has no more elements than room. -/
theorem open_bytes_cap {fuel : Nat} {v : Value} {x : DataW H × List MemPlace} (h : DataW.trod enc Try.prog W 0 (fun _ => true) true fuel 65 [v] = some x) : ∀ ao n c, v = .slice ao n c → n ≤ c := by
  intro ao n c e
  rcases open_ints Try.underlying65 Try.underlying5 cells_u8 h with ⟨hcs, hx⟩ | ⟨a, len, cap, zs, hcs, _, hl, _⟩
  · obtain rfl : v = .slice none 0 0 := by simpa using hcs
    simp at e
    omega
  · obtain rfl : v = .slice (some a) len cap := by simpa using hcs
    simp at e
    omega

end Go.Proofs.Ytffpjefecmkfmaa

/-
  Lists of bytes that came in: a slice of slices. By an AI agent.
-/
namespace Go.Proofs.Ytffpjefecmkfmaa
open Go.RowKit

/-- One list of bytes: its slice, and the bytes. -/
structure RowD where
  v : Value
  bs : List Int

/-- It lies in a cell. -/
structure RowIn (w : World) (b o : Nat) (d : RowD) : Prop where
  c0 : w.cell? ⟨b, o, none⟩ = some d.v
  sl : Sl w d.v d.bs
  by_ : By d.bs
  big : d.bs.length ≤ 140737488355328

/-- The slice v reads as these lists of bytes. -/
def Rws (w : World) (v : Value) (ds : List RowD) : Prop :=
  (ds = [] ∧ ∃ ao c, v = .slice ao 0 c) ∨ ∃ b o c, v = .slice (some ⟨b, o, none⟩) ds.length c ∧ b < w.heap.size ∧ ds.length ≤ 140737488355328 ∧ ∀ i d, ds[i]? = some d → RowIn w b (o + i) d

theorem Rws.slice {w : World} {v : Value} {ds : List RowD} (h : Rws w v ds) : ∃ ao c, v = .slice ao ds.length c := by
  rcases h with ⟨rfl, ao, c, rfl⟩ | ⟨b, o, cp, rfl, _⟩
  · exact ⟨ao, c, rfl⟩
  · exact ⟨_, _, rfl⟩

theorem Rws.len {w : World} {v : Value} {ds : List RowD} (h : Rws w v ds) : ds.length ≤ 140737488355328 := by
  rcases h with ⟨rfl, _⟩ | ⟨b, o, cp, rfl, _, h, _⟩
  · simp
  · exact h

/-- The i-th of them. -/
theorem Rws.at {w : World} {ao : Option Addr} {n c : Nat} {ds : List RowD} (h : Rws w (.slice ao n c) ds) {i : Nat} {d : RowD} (hi : ds[i]? = some d) : ∃ b o, ao = some ⟨b, o, none⟩ ∧ b < w.heap.size ∧ RowIn w b (o + i) d := by
  rcases h with ⟨rfl, _⟩ | ⟨b, o, cp, hv, hb, _, h⟩
  · simp at hi
  · obtain ⟨rfl, -, -⟩ : ao = some ⟨b, o, none⟩ ∧ n = ds.length ∧ c = cp := by simpa using hv
    exact ⟨b, o, rfl, hb, h i d hi⟩

theorem Sl.chgNil {w w' : World} {v : Value} {xs : List Int} (h : Sl w v xs) (c : Chg [] w w') : Sl w' v xs := h.chg c (fun _ _ => by simp)

/-- They read the same while nothing that was there is turned. -/
theorem Rws.chg {w w' : World} {v : Value} {ds : List RowD} (h : Rws w v ds) (c : Chg [] w w') : Rws w' v ds := by
  rcases h with h | ⟨b, o, cp, rfl, hb, hl, h⟩
  · exact .inl h
  · refine .inr ⟨b, o, cp, rfl, Nat.lt_of_lt_of_le hb c.size, hl, fun i d hd => ?_⟩
    have k := h i d hd
    exact ⟨(c.cell (p := ⟨b, o + i, none⟩) hb (by simp)).trans k.c0, k.sl.chgNil c, k.by_, k.big⟩

end Go.Proofs.Ytffpjefecmkfmaa
namespace Go.Proofs.Ytffpjefecmkfmaa
open Go.RowKit

/-- A patch: its member, its row, its bytes and their slice. -/
structure PtD where
  m : Int
  r : Int
  v : Value
  d : List Int

/-- It lies at b, o. -/
structure PtIn (w : World) (b o : Nat) (p : PtD) : Prop where
  c0 : w.cell? ⟨b, o, none⟩ = some (.int .i64 p.m)
  c1 : w.cell? ⟨b, o + 1, none⟩ = some (.int .i64 p.r)
  c2 : w.cell? ⟨b, o + 2, none⟩ = some p.v
  sl : Sl w p.v p.d
  big : p.d.length ≤ 140737488355328

/-- The slice v reads as these. -/
def Pts (w : World) (v : Value) (ds : List PtD) : Prop :=
  (ds = [] ∧ ∃ ao c, v = .slice ao 0 c) ∨ ∃ b o c, v = .slice (some ⟨b, o, none⟩) ds.length c ∧ b < w.heap.size ∧ ds.length ≤ 140737488355328 ∧ ∀ i d, ds[i]? = some d → PtIn w b (o + i * 3) d

theorem Pts.slice {w : World} {v : Value} {ds : List PtD} (h : Pts w v ds) : ∃ ao c, v = .slice ao ds.length c := by
  rcases h with ⟨rfl, ao, c, rfl⟩ | ⟨b, o, cp, rfl, _⟩
  · exact ⟨ao, c, rfl⟩
  · exact ⟨_, _, rfl⟩

theorem Pts.len {w : World} {v : Value} {ds : List PtD} (h : Pts w v ds) : ds.length ≤ 140737488355328 := by
  rcases h with ⟨rfl, _⟩ | ⟨b, o, cp, rfl, _, h, _⟩
  · simp
  · exact h

/-- The i-th of them. -/
theorem Pts.at {w : World} {ao : Option Addr} {n c : Nat} {ds : List PtD} (h : Pts w (.slice ao n c) ds) {i : Nat} {d : PtD} (hi : ds[i]? = some d) : ∃ b o, ao = some ⟨b, o, none⟩ ∧ b < w.heap.size ∧ PtIn w b (o + i * 3) d := by
  rcases h with ⟨rfl, _⟩ | ⟨b, o, cp, hv, hb, _, h⟩
  · simp at hi
  · obtain ⟨rfl, -, -⟩ : ao = some ⟨b, o, none⟩ ∧ n = ds.length ∧ c = cp := by simpa using hv
    exact ⟨b, o, rfl, hb, h i d hi⟩

theorem PtIn.chg {w w' : World} {s : List Nat} {b o : Nat} {d : PtD} (k : PtIn w b o d) (hb : b < w.heap.size) (c : Chg s w w') (hs : b ∉ s) (hv : ∀ g, d.v.ownBlock = some g → g ∉ s) : PtIn w' b o d :=
  ⟨(c.cell (p := ⟨b, _, none⟩) hb hs).trans k.c0, (c.cell (p := ⟨b, _, none⟩) hb hs).trans k.c1, (c.cell (p := ⟨b, _, none⟩) hb hs).trans k.c2, k.sl.chg c hv, k.big⟩

/-- They read the same while nothing that was there is turned. -/
theorem Pts.chg {w w' : World} {v : Value} {ds : List PtD} (h : Pts w v ds) (c : Chg [] w w') : Pts w' v ds := by
  rcases h with h | ⟨b, o, cp, rfl, hb, hl, h⟩
  · exact .inl h
  · exact .inr ⟨b, o, cp, rfl, Nat.lt_of_lt_of_le hb c.size, hl, fun i d hd => (h i d hd).chg hb c (by simp) (by simp)⟩

/-- A list of one patch, in a new block. -/
theorem Pts.one (w : World) (p : PtD) (t : TypeId) (h : Sl w p.v p.d) (hl : p.d.length ≤ 140737488355328) :
    Pts (w.alloc (.cells #[.int .i64 p.m, .int .i64 p.r, p.v] t)) (.slice (some ⟨w.heap.size, 0, none⟩) 1 1) [p] := by
  have B := Blk.made w [.int .i64 p.m, .int .i64 p.r, p.v] t
  refine .inr ⟨w.heap.size, 0, 1, rfl, B.lt, by simp, fun i d hd => ?_⟩
  have hi : i = 0 := by have := (List.getElem?_eq_some_iff.1 hd).1; simp at this; exact this
  subst hi
  obtain rfl : p = d := by simpa using hd
  exact ⟨B.cell (j := 0) rfl, B.cell (j := 1) rfl, B.cell (j := 2) rfl, h.chg (s := []) ((Chg.refl _ _).alloc _) (by simp), hl⟩

/-- What two patches have in common, all of it. -/
def PtD.alike (p q : PtD) : Prop := p.m = q.m ∧ p.r = q.r ∧ p.d = q.d

end Go.Proofs.Ytffpjefecmkfmaa
