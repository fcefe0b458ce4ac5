/-
  More that came in: ints, bools, bools' rows; structs whose fields take one cell each. By an AI agent.
-/
import Derived.Test.YtkafkdlgflkjgaaGreatBGIn
import Derived.Test.YtkafkdlgflkjgaaGreatBGOwnMem
import Derived.Deep.Grids
import Derived.Deep.Strs
namespace Go.Proofs.YtkafkdlgflkjgaaGreat
open Go.RowKit

section
open Go.ChangeShapes Go.WideShapes Go.Deep
variable {H : Type} {enc : TypeId × Value → H} {P : Program} {w : World} {base : Nat} {spare : Nat → Bool} {held : Bool}
theorem open_slice_fields {t e : TypeId} {fs : Array Field} {fuel : Nat} {cs : List Value} {x : DataW H × List MemPlace} (ht : P.underlying t = some (.slice e)) (he : P.underlying e = some (.struct fs))
 (hone : oneCellFields P fs = true) (hC : P.cellsOf e = fs.size) (h : DataW.trod enc P w base spare held fuel t cs = some x) :
 (cs = [.slice none 0 0] ∧ x = (.nil, [])) ∨
 ∃ (a : Addr) (len cap m : Nat) (D : Nat → DataW H) (Pl : Nat → List MemPlace), cs = [.slice (some a) len cap] ∧ base ≤ a.block ∧ len ≤ cap ∧ cap ≤ maxLen ∧ m = (if spare a.block then cap else len) ∧
   x = (.slice ((List.range len).map D) ((List.range (m - len)).map fun j => D (len + j)), MemPlace.row a (m * fs.size) ++ (List.range m).flatMap Pl) ∧
   ∀ i, i < m → ∃ (ys : List (DataW H × List MemPlace)) (n : Nat), D i = .agg (ys.map (·.1)) ∧ Pl i = ys.flatMap (·.2) ∧ ys.length = fs.size ∧
     ∀ (j : Nat) (f : Field), fs[j]? = some f → ∃ (v : Value) (y : DataW H × List MemPlace), w.cell? (a.add (i * fs.size + j)) = some v ∧ ys[j]? = some y ∧ DataW.trod enc P w base spare held n f.type [v] = some y := by
 rcases open_slice ht h with h0 | ⟨a, len, cap, m, n, D, Pl, hcs, hb, hl, hm, hmm, hx, hi⟩
 ·exact .inl h0
 ·refine .inr ⟨a, len, cap, m, D, Pl, hcs, hb, hl, hm, hmm, by rw [hC] at hx; exact hx, fun i him => ?_⟩
  obtain ⟨cs', hc, ht'⟩ := hi i him
  rw [hC] at hc
  obtain ⟨ys, n', hn', hy, hlen, hyl, hf⟩ := DataW.trod_struct he ht'
  obtain ⟨_, hcl, hat⟩ := World.cells?_some hc
  simp only [Prod.mk.injEq] at hy
  refine ⟨ys, n', hy.1, hy.2, hyl, fun j f hj => ?_⟩
  obtain ⟨ho, hk⟩ := hone_of hone j f hj
  have hjl : j < fs.size := (Array.getElem?_eq_some_iff.1 hj).1
  have hcell := hat j hjl
  have hv : cs'[j]? = some (cs'[j]'(by omega)) := List.getElem?_eq_getElem (by omega)
  have h1 := hf j f hj
  rw [ho, hk] at h1
  have hone' : (cs'.drop j).take 1 = [cs'[j]'(by omega)] := by
   rw [List.drop_eq_getElem_cons (by omega)]
   rfl
  rw [hone'] at h1
  have hys : ys[j]? = some (ys[j]'(by omega)) := List.getElem?_eq_getElem (by omega)
  refine ⟨_, _, ?_, hys, h1.trans hys⟩
  rw [← Go.Deep.add_add, hcell, hv]
end

theorem RdV.chgNil {w w' : World} {v : Value} {xs : List Value} (h : RdV w v xs) (c : Chg [] w w') : RdV w' v xs := h.chg c (fun _ _ => by simp)

theorem Rws.chgNil {w w' : World} {v : Value} {ds : List RowD} (h : Rws w v ds) (c : Chg [] w w') : Rws w' v ds := h.chg c

section
open Go.ChangeShapes Go.WideShapes Go.Deep Go.ChangeAt
variable {H : Type} {enc : TypeId × Value → H} {W : World}

theorem cells_bool : Tryz.prog.cellsOf 4 = 1 := by kernel_rfl
theorem bytes_bool : Tryz.prog.bytesOf 4 = 1 := by kernel_rfl

/-- Bools that came in, by their fit. -/
theorem open_bools_fit {fuel : Nat} {v : Value} {x : DataW H × List MemPlace} (h : DataW.trod enc Tryz.prog W 0 (fun _ => true) true fuel 59 [v] = some x) (hf : Fits 59 x.1) :
 ∃ bs : List Bool, RdV W v (bs.map Value.bool) ∧ bs.length ≤ 140737488355328 := by
 rcases open_bools Tryz.underlying59 Tryz.underlying4 cells_bool h with ⟨hcs, hx⟩ | H0
 ·obtain rfl : v = .slice none 0 0 := by simpa using hcs
  exact ⟨[], .inl ⟨rfl, _, _, rfl⟩, by simp⟩
 ·obtain ⟨a, len, cap, B, hcs, _, hl, hm, hx, hcell⟩ := H0
  obtain rfl : v = .slice (some a) len cap := by simpa using hcs
  have hbig : len ≤ 140737488355328 := by
   subst hx
   have := Fits.len hf Tryz.underlying59
   rw [bytes_bool] at this
   simp only [List.length_map, List.length_range, reachBytes] at this
   omega
  by_cases h0 : len = 0
  ·subst h0
   exact ⟨[], .inl ⟨rfl, _, _, rfl⟩, by simp⟩
  ·obtain ⟨b, off, spot⟩ := a
   obtain rfl : spot = none := by simpa [Addr.add] using World.cell?_spot (hcell 0 (by omega))
   refine ⟨(List.range len).map B, .inr ⟨b, off, cap, by simp, ?_, fun j u hj => ?_⟩, by simpa using hbig⟩
   ·have := hcell 0 (by omega)
    exact World.block_lt_of_cell? W _ this
   ·have hjl : j < len := by
     have := (List.getElem?_eq_some_iff.1 hj).1
     simpa using this
    have := hcell j (by omega)
    rw [Addr.add_lit] at this
    rw [this, ← hj]
    simp [hjl]

/-- Numbers as an int has them. -/
def Is (zs : List Int) : Prop := ∀ z ∈ zs, -9223372036854775808 ≤ z ∧ z ≤ 9223372036854775807

/-- One list of bools: its slice, and the bools. -/
structure BoolD where
 v : Value
 bs : List Bool

/-- It lies in a cell. -/
structure BoolIn (w : World) (b o : Nat) (d : BoolD) : Prop where
 c0 : w.cell? ⟨b, o, none⟩ = some d.v
 rd : RdV w d.v (d.bs.map Value.bool)
 big : d.bs.length ≤ 140737488355328

/-- The slice v reads as these lists of bools. -/
def BRs (w : World) (v : Value) (ds : List BoolD) : Prop :=
 (ds = [] ∧ ∃ ao c, v = .slice ao 0 c) ∨ ∃ b o c, v = .slice (some ⟨b, o, none⟩) ds.length c ∧ b < w.heap.size ∧ ds.length ≤ 140737488355328 ∧ ∀ i d, ds[i]? = some d → BoolIn w b (o + i) d

theorem BRs.slice {w : World} {v : Value} {ds : List BoolD} (h : BRs w v ds) : ∃ ao c, v = .slice ao ds.length c := by
 rcases h with ⟨rfl, ao, c, rfl⟩ | ⟨b, o, cp, rfl, _⟩
 ·exact ⟨ao, c, rfl⟩
 ·exact ⟨_, _, rfl⟩

theorem BRs.len {w : World} {v : Value} {ds : List BoolD} (h : BRs w v ds) : ds.length ≤ 140737488355328 := by
 rcases h with ⟨rfl, _⟩ | ⟨b, o, cp, rfl, _, h, _⟩
 ·simp
 ·exact h

theorem BRs.at {w : World} {ao : Option Addr} {n c : Nat} {ds : List BoolD} (h : BRs w (.slice ao n c) ds) {i : Nat} {d : BoolD} (hi : ds[i]? = some d) : ∃ b o, ao = some ⟨b, o, none⟩ ∧ b < w.heap.size ∧ BoolIn w b (o + i) d := by
 rcases h with ⟨rfl, _⟩ | ⟨b, o, cp, hv, hb, _, h⟩
 ·simp at hi
 ·obtain ⟨rfl, -, -⟩ : ao = some ⟨b, o, none⟩ ∧ n = ds.length ∧ c = cp := by simpa using hv
  exact ⟨b, o, rfl, hb, h i d hi⟩

theorem BRs.chgNil {w w' : World} {v : Value} {ds : List BoolD} (h : BRs w v ds) (c : Chg [] w w') : BRs w' v ds := by
 rcases h with h | ⟨b, o, cp, rfl, hb, hl, h⟩
 ·exact .inl h
 ·refine .inr ⟨b, o, cp, rfl, Nat.lt_of_lt_of_le hb c.size, hl, fun i d hd => ?_⟩
  have k := h i d hd
  exact ⟨(c.cell (p := ⟨b, o + i, none⟩) hb (by simp)).trans k.c0, k.rd.chgNil c, k.big⟩

end
end Go.Proofs.YtkafkdlgflkjgaaGreat

/-
  Patches, and lists of lists of patches, that came in. By an AI agent.
-/
namespace Go.Proofs.YtkafkdlgflkjgaaGreat
open Go.RowKit

/-- A slice has room for what it has. -/
def Capd (v : Value) : Prop := ∀ ao n c, v = .slice ao n c → n ≤ c

/-- Patches whose bytes are bytes. -/
def Pure (ps : List PtD) : Prop := ∀ d ∈ ps, By d.d ∧ Capd d.v

structure PlD where
 v : Value
 ps : List PtD

structure PlIn (w : World) (b o : Nat) (d : PlD) : Prop where
 c0 : w.cell? ⟨b, o, none⟩ = some d.v
 pt : Pts w d.v d.ps
 pu : Pure d.ps

/-- The slice v reads as these. -/
def Pls (w : World) (v : Value) (ds : List PlD) : Prop :=
 (ds = [] ∧ ∃ ao c, v = .slice ao 0 c) ∨ ∃ b o c, v = .slice (some ⟨b, o, none⟩) ds.length c ∧ b < w.heap.size ∧ ds.length ≤ 140737488355328 ∧ ∀ i d, ds[i]? = some d → PlIn w b (o + i) d

theorem Pls.slice {w : World} {v : Value} {ds : List PlD} (h : Pls w v ds) : ∃ ao c, v = .slice ao ds.length c := by
 rcases h with ⟨rfl, ao, c, rfl⟩ | ⟨b, o, cp, rfl, _⟩
 ·exact ⟨ao, c, rfl⟩
 ·exact ⟨_, _, rfl⟩

theorem Pls.len {w : World} {v : Value} {ds : List PlD} (h : Pls w v ds) : ds.length ≤ 140737488355328 := by
 rcases h with ⟨rfl, _⟩ | ⟨b, o, cp, rfl, _, h, _⟩
 ·simp
 ·exact h

theorem Pls.at {w : World} {ao : Option Addr} {n c : Nat} {ds : List PlD} (h : Pls w (.slice ao n c) ds) {i : Nat} {d : PlD} (hi : ds[i]? = some d) : ∃ b o, ao = some ⟨b, o, none⟩ ∧ b < w.heap.size ∧ PlIn w b (o + i) d := by
 rcases h with ⟨rfl, _⟩ | ⟨b, o, cp, hv, hb, _, h⟩
 ·simp at hi
 ·obtain ⟨rfl, -, -⟩ : ao = some ⟨b, o, none⟩ ∧ n = ds.length ∧ c = cp := by simpa using hv
  exact ⟨b, o, rfl, hb, h i d hi⟩

theorem PlIn.chg {w w' : World} {b o : Nat} {d : PlD} (k : PlIn w b o d) (hb : b < w.heap.size) (c : Chg [] w w') : PlIn w' b o d :=
 ⟨(c.cell (p := ⟨b, _, none⟩) hb (by simp)).trans k.c0, k.pt.chg c, k.pu⟩

theorem Pls.chg {w w' : World} {v : Value} {ds : List PlD} (h : Pls w v ds) (c : Chg [] w w') : Pls w' v ds := by
 rcases h with h | ⟨b, o, cp, rfl, hb, hl, h⟩
 ·exact .inl h
 ·exact .inr ⟨b, o, cp, rfl, Nat.lt_of_lt_of_le hb c.size, hl, fun i d hd => (h i d hd).chg hb c⟩

section
open Go.ChangeShapes Go.WideShapes Go.Deep Go.ChangeAt
variable {H : Type} {enc : TypeId × Value → H} {W : World}

theorem cells_pt : Tryz.prog.cellsOf 105 = 3 := by kernel_rfl
theorem bytes_pt : 1 ≤ Tryz.prog.bytesOf 105 := of_decide_eq_true (by kernel_rfl)
theorem open_ptsc {fuel : Nat} {v : Value} {x : DataW H × List MemPlace} (h : DataW.trod enc Tryz.prog W 0 (fun _ => true) true fuel 58 [v] = some x) (hf : Fits 58 x.1) : ∃ ds, Pts W v ds ∧ ∀ d ∈ ds, By d.d ∧ Capd d.v := by
 rcases open_slice Tryz.underlying58 h with ⟨hcs, hx⟩ | ⟨a, len, cap, m, n, D, Pl, hcs, _, hl, hm, hmm, hx, hi⟩
 ·obtain rfl : v = .slice none 0 0 := by simpa using hcs
  exact ⟨[], .inl ⟨rfl, _, _, rfl⟩, by simp⟩
 ·obtain rfl : v = .slice (some a) len cap := by simpa using hcs
  simp only [if_true] at hmm
  subst hx
  rw [cells_pt] at hi
  have hbig : len ≤ 140737488355328 := by
   have h1 := Fits.len hf Tryz.underlying58
   have h2 := bytes_pt
   simp only [List.length_map, List.length_range, reachBytes] at h1
   have h3 : len ≤ (len + (m - len)) * Tryz.prog.bytesOf 105 := Nat.le_trans (Nat.le_add_right _ _) (Nat.le_mul_of_pos_right _ h2)
   omega
  by_cases h0 : len = 0
  ·subst h0
   exact ⟨[], .inl ⟨rfl, _, _, rfl⟩, by simp⟩
  ·have hcell : ∀ i, i < m → ∃ u0 u1 u2, W.cells? 0 (a.add (i * 3)) 3 = some [u0, u1, u2] ∧ (∀ j u, [u0, u1, u2][j]? = some u → W.cell? ((a.add (i * 3)).add j) = some u) ∧ DataW.trod enc Tryz.prog W 0 (fun _ => true) true n 105 [u0, u1, u2] = some (D i, Pl i) := fun i him => by
    obtain ⟨cs', hc, ht⟩ := hi i him
    obtain ⟨_, hcl, hat⟩ := World.cells?_some hc
    match cs', hcl, hat with
    | [u0, u1, u2], _, hat =>
      refine ⟨u0, u1, u2, hc, fun j u hj => ?_, ht⟩
      have hj4 : j < 3 := (List.getElem?_eq_some_iff.1 hj).1
      rw [hat j hj4]
      exact hj
   have hsp : a.spot = none ∧ a.block < W.heap.size := by
    obtain ⟨u0, u1, u2, _, hu, _⟩ := hcell 0 (by omega)
    have h1 := hu 0 u0 rfl
    have h1 : W.cell? a = some u0 := by simpa [Addr.add] using h1
    exact ⟨by simpa using World.cell?_spot h1, World.block_lt_of_cell? W _ h1⟩
   obtain ⟨b, off, spot⟩ := a
   obtain ⟨rfl, hb⟩ : spot = none ∧ b < W.heap.size := hsp
   have hex : ∀ i, i < len → ∃ d : PtD, PtIn W b (off + i * 3) d ∧ By d.d ∧ Capd d.v := by
    intro i hil
    obtain ⟨u1, u2, u3, _, hu, t1⟩ := hcell i (by omega)
    have c64 : Tryz.prog.cellsOf 3 = 1 := by kernel_rfl
    have cby : Tryz.prog.cellsOf 65 = 1 := by kernel_rfl
    obtain ⟨q0, q1, q2, n2, hq, _, s0, s1, s2⟩ := trod_struct3 Tryz.underlying105 t1
    dsimp only at s0 s1 s2
    rw [c64] at s0 s1
    rw [cby] at s2
    have s0 : DataW.trod enc Tryz.prog W 0 (fun _ => true) true n2 3 [u1] = some q0 := s0
    have s1 : DataW.trod enc Tryz.prog W 0 (fun _ => true) true n2 3 [u2] = some q1 := s1
    have s2 : DataW.trod enc Tryz.prog W 0 (fun _ => true) true n2 65 [u3] = some q2 := s2
    obtain ⟨z1, e1, _, _⟩ := DataW.trod_int Tryz.underlying3 s0
    obtain rfl : u1 = .int .i64 z1 := by simpa using e1
    obtain ⟨z2, e2, _, _⟩ := DataW.trod_int Tryz.underlying3 s1
    obtain rfl : u2 = .int .i64 z2 := by simpa using e2
    have h1 : Fits 105 (D i) := Fits.elem hf Tryz.underlying58 (List.mem_map.2 ⟨i, List.mem_range.2 hil, rfl⟩)
    have hY : D i = .agg [q0.1, q1.1, q2.1] := congrArg Prod.fst hq
    rw [hY] at h1
    have h2 : Fits 65 q2.1 := Fits.field h1 Tryz.underlying105 (j := 2) rfl rfl
    obtain ⟨xs, hs, hy, hg⟩ := open_bytes_fit s2 h2
    have g0 := hu 0 _ rfl
    have g1 := hu 1 _ rfl
    have g2 := hu 2 _ rfl
    simp only [Addr.add_lit] at g0 g1 g2
    exact ⟨⟨z1, z2, u3, xs⟩, ⟨g0, g1, g2, hs, hg⟩, hy, open_bytes_cap s2⟩
   have : Inhabited PtD := ⟨⟨0, 0, undef, []⟩⟩
   obtain ⟨f, hfn⟩ := Go.Deep.choose_lt hex
   refine ⟨(List.range len).map f, .inr ⟨b, off, cap, by simp, hb, by simpa using hbig, fun i d hd => ?_⟩, fun d hd => ?_⟩
   ·rw [List.getElem?_map] at hd
    obtain ⟨i', hi', rfl⟩ := Option.map_eq_some_iff.1 hd
    obtain ⟨h1, h2⟩ := List.getElem?_eq_some_iff.1 hi'
    rw [List.getElem_range] at h2
    subst h2
    exact (hfn i (by simpa using h1)).1
   ·obtain ⟨i, hi, rfl⟩ := List.mem_map.1 hd
    exact (hfn i (List.mem_range.1 hi)).2

end
end Go.Proofs.YtkafkdlgflkjgaaGreat

/-
  Structs that came in: a slice of WOp. By an AI agent.
-/
namespace Go.Proofs.YtkafkdlgflkjgaaGreat
open Go.RowKit

/-- One of them. -/
structure WOpD where
 kind : Int
 num : Int
 ptsV : Value
 pts : List PtD
 keepV : Value
 keep : List Bool

/-- It lies at b, o. -/
structure WOpIn (w : World) (b o : Nat) (d : WOpD) : Prop where
 c0 : w.cell? ⟨b, o, none⟩ = some (.int .i64 d.kind)
 c1 : w.cell? ⟨b, o + 1, none⟩ = some (.int .i64 d.num)
 c2 : w.cell? ⟨b, o + 2, none⟩ = some (d.ptsV)
 c3 : w.cell? ⟨b, o + 3, none⟩ = some (d.keepV)
 r0 : -9223372036854775808 ≤ d.kind ∧ d.kind ≤ 9223372036854775807
 r1 : -9223372036854775808 ≤ d.num ∧ d.num ≤ 9223372036854775807
 s2 : Pts w d.ptsV d.pts
 y2 : ∀ p ∈ d.pts, By p.d ∧ Capd p.v
 s3 : RdV w d.keepV (d.keep.map Value.bool)
 g3 : d.keep.length ≤ 140737488355328

/-- The slice v reads as these. -/
def WOps (w : World) (v : Value) (ds : List WOpD) : Prop :=
 (ds = [] ∧ ∃ ao c, v = .slice ao 0 c) ∨ ∃ b o c, v = .slice (some ⟨b, o, none⟩) ds.length c ∧ b < w.heap.size ∧ ds.length ≤ 140737488355328 ∧ ∀ i d, ds[i]? = some d → WOpIn w b (o + i * 4) d

theorem WOps.slice {w : World} {v : Value} {ds : List WOpD} (h : WOps w v ds) : ∃ ao c, v = .slice ao ds.length c := by
 rcases h with ⟨rfl, ao, c, rfl⟩ | ⟨b, o, cp, rfl, _⟩
 ·exact ⟨ao, c, rfl⟩
 ·exact ⟨_, _, rfl⟩

theorem WOps.len {w : World} {v : Value} {ds : List WOpD} (h : WOps w v ds) : ds.length ≤ 140737488355328 := by
 rcases h with ⟨rfl, _⟩ | ⟨b, o, cp, rfl, _, h, _⟩
 ·simp
 ·exact h

/-- The i-th of them. -/
theorem WOps.at {w : World} {ao : Option Addr} {n c : Nat} {ds : List WOpD} (h : WOps w (.slice ao n c) ds) {i : Nat} {d : WOpD} (hi : ds[i]? = some d) : ∃ b o, ao = some ⟨b, o, none⟩ ∧ b < w.heap.size ∧ WOpIn w b (o + i * 4) d := by
 rcases h with ⟨rfl, _⟩ | ⟨b, o, cp, hv, hb, _, h⟩
 ·simp at hi
 ·obtain ⟨rfl, -, -⟩ : ao = some ⟨b, o, none⟩ ∧ n = ds.length ∧ c = cp := by simpa using hv
  exact ⟨b, o, rfl, hb, h i d hi⟩

theorem WOpIn.chg {w w' : World} {b o : Nat} {d : WOpD} (k : WOpIn w b o d) (hb : b < w.heap.size) (c : Chg [] w w') : WOpIn w' b o d :=
 ⟨(c.cell (p := ⟨b, _, none⟩) hb (by simp)).trans k.c0, (c.cell (p := ⟨b, _, none⟩) hb (by simp)).trans k.c1, (c.cell (p := ⟨b, _, none⟩) hb (by simp)).trans k.c2, (c.cell (p := ⟨b, _, none⟩) hb (by simp)).trans k.c3, k.r0, k.r1, k.s2.chg c, k.y2, k.s3.chgNil c, k.g3⟩

/-- They read the same while nothing that was there is turned. -/
theorem WOps.chg {w w' : World} {v : Value} {ds : List WOpD} (h : WOps w v ds) (c : Chg [] w w') : WOps w' v ds := by
 rcases h with h | ⟨b, o, cp, rfl, hb, hl, h⟩
 ·exact .inl h
 ·exact .inr ⟨b, o, cp, rfl, Nat.lt_of_lt_of_le hb c.size, hl, fun i d hd => (h i d hd).chg hb c⟩

section
open Go.ChangeShapes Go.WideShapes Go.Deep Go.ChangeAt
variable {H : Type} {enc : TypeId × Value → H} {W : World}

theorem cells_wop : Tryz.prog.cellsOf 61 = 4 := by kernel_rfl
theorem bytes_wop : 1 ≤ Tryz.prog.bytesOf 61 := of_decide_eq_true (by kernel_rfl)

theorem open_wops {fuel : Nat} {v : Value} {x : DataW H × List MemPlace} (h : DataW.trod enc Tryz.prog W 0 (fun _ => true) true fuel 24 [v] = some x) (hf : Fits 24 x.1) : ∃ ds, WOps W v ds := by
 rcases open_slice_fields Tryz.underlying24 Tryz.underlying61 (by kernel_rfl) cells_wop h with ⟨hcs, hx⟩ | ⟨a, len, cap, m, D, Pl, hcs, _, hl, hm, hmm, hx, hi⟩
 ·obtain rfl : v = .slice none 0 0 := by simpa using hcs
  exact ⟨[], .inl ⟨rfl, _, _, rfl⟩⟩
 ·obtain rfl : v = .slice (some a) len cap := by simpa using hcs
  simp only [if_true] at hmm
  subst hx
  have hbig : len ≤ 140737488355328 := by
   have h1 := Fits.len hf Tryz.underlying24
   have h2 := bytes_wop
   simp only [List.length_map, List.length_range, reachBytes] at h1
   have h3 : len ≤ (len + (m - len)) * Tryz.prog.bytesOf 61 := Nat.le_trans (Nat.le_add_right _ _) (Nat.le_mul_of_pos_right _ h2)
   omega
  by_cases h0 : len = 0
  ·subst h0
   exact ⟨[], .inl ⟨rfl, _, _, rfl⟩⟩
  ·have hsp : a.spot = none ∧ a.block < W.heap.size := by
    obtain ⟨ys, n, hD, _, _, hfl⟩ := hi 0 (by omega)
    obtain ⟨u, y, hc, _⟩ := hfl 0 _ rfl
    have h1 : W.cell? a = some u := by simpa [Addr.add] using hc
    exact ⟨by simpa using World.cell?_spot h1, World.block_lt_of_cell? W _ h1⟩
   obtain ⟨b, off, spot⟩ := a
   obtain ⟨rfl, hb⟩ : spot = none ∧ b < W.heap.size := hsp
   have hex : ∀ i, i < len → ∃ d, WOpIn W b (off + i * 4) d := by
    intro i hil
    obtain ⟨ys, n, hD, _, hyl, hfl⟩ := hi i (by omega)
    have hel : Fits 61 (D i) := Fits.elem hf Tryz.underlying24 (List.mem_map.2 ⟨i, List.mem_range.2 hil, rfl⟩)
    rw [hD] at hel
    obtain ⟨u0, y0, c0, g0, t0⟩ := hfl 0 _ rfl
    obtain ⟨z0, e0, _, w0⟩ := DataW.trod_int Tryz.underlying3 t0
    obtain rfl : u0 = .int .i64 z0 := by simpa using e0
    obtain ⟨u1, y1, c1, g1, t1⟩ := hfl 1 _ rfl
    obtain ⟨z1, e1, _, w1⟩ := DataW.trod_int Tryz.underlying3 t1
    obtain rfl : u1 = .int .i64 z1 := by simpa using e1
    obtain ⟨u2, y2, c2, g2, t2⟩ := hfl 2 _ rfl
    have hf2 : Fits 58 y2.1 := Fits.field hel Tryz.underlying61 (j := 2) rfl (by rw [List.getElem?_map, g2]; rfl)
    obtain ⟨z2, hs2, hy2⟩ := open_ptsc t2 hf2
    obtain ⟨u3, y3, c3, g3, t3⟩ := hfl 3 _ rfl
    have hf3 : Fits 59 y3.1 := Fits.field hel Tryz.underlying61 (j := 3) rfl (by rw [List.getElem?_map, g3]; rfl)
    obtain ⟨z3, hs3, hg3⟩ := open_bools_fit t3 hf3
    rw [Addr.add_lit] at c0 c1 c2 c3
    exact ⟨⟨z0, z1, u2, z2, u3, z3⟩, c0, c1, c2, c3, bounds_i64 w0, bounds_i64 w1, hs2, hy2, hs3, hg3⟩
   have : Inhabited WOpD := ⟨⟨0, 0, undef, [], undef, []⟩⟩
   obtain ⟨f, hfn⟩ := Go.Deep.choose_lt hex
   refine ⟨(List.range len).map f, .inr ⟨b, off, cap, by simp, hb, by simpa using hbig, fun i d hd => ?_⟩⟩
   rw [List.getElem?_map] at hd
   obtain ⟨i', hi', rfl⟩ := Option.map_eq_some_iff.1 hd
   obtain ⟨h1, h2⟩ := List.getElem?_eq_some_iff.1 hi'
   rw [List.getElem_range] at h2
   subst h2
   exact hfn i (by simpa using h1)
end
end Go.Proofs.YtkafkdlgflkjgaaGreat
