/-
  Ballots in memory; a slice of them that came in. By an AI agent.
-/
import Derived.Test.YtffpjefecmkfmaaBSpIn
import Derived.Test.YtffpjefecmkfmaaBGInMore
import Derived.Test.YtffpjefecmkfmaaBVtSpec
namespace Go.Proofs.Ytffpjefecmkfmaa
open Go.RowKit

/-- It lies at b, o. -/
structure BalIn (w : World) (b o : Nat) (d : BalD) : Prop where
  c0 : w.cell? ⟨b, o, none⟩ = some (.bool d.has)
  c1 : w.cell? ⟨b, o + 1, none⟩ = some (.int .u64 (d.s.id : Int))
  c2 : w.cell? ⟨b, o + 2, none⟩ = some (.int .u64 (d.s.ev : Int))
  c3 : w.cell? ⟨b, o + 3, none⟩ = some (.int .u64 (d.s.safe : Int))
  c4 : w.cell? ⟨b, o + 4, none⟩ = some (.int .i64 d.s.role)
  c5 : w.cell? ⟨b, o + 5, none⟩ = some (.int .i64 d.s.m)
  c6 : w.cell? ⟨b, o + 6, none⟩ = some (.int .i64 d.s.c)
  c7 : w.cell? ⟨b, o + 7, none⟩ = some (.int .i64 d.s.t)
  c8 : w.cell? ⟨b, o + 8, none⟩ = some (.int .i64 d.s.ring)
  c9 : w.cell? ⟨b, o + 9, none⟩ = some (.bool d.s.lazy)
  c10 : w.cell? ⟨b, o + 10, none⟩ = some (.bool d.s.lost)
  c11 : w.cell? ⟨b, o + 11, none⟩ = some (d.u)
  c12 : w.cell? ⟨b, o + 12, none⟩ = some (.int .i64 d.s.cur)
  sl : Sl w d.u d.s.st
  big : d.s.st.length ≤ 140737488355328
  fit : d.s.Fit

/-- The slice v reads as these. -/
def Bals (w : World) (v : Value) (ds : List BalD) : Prop :=
  (ds = [] ∧ ∃ ao c, v = .slice ao 0 c) ∨ ∃ b o c, v = .slice (some ⟨b, o, none⟩) ds.length c ∧ b < w.heap.size ∧ ds.length ≤ 140737488355328 ∧ ds.length ≤ c ∧ ∀ i d, ds[i]? = some d → BalIn w b (o + i * 13) d

theorem Bals.slice {w : World} {v : Value} {ds : List BalD} (h : Bals w v ds) : ∃ ao c, v = .slice ao ds.length c := by
  rcases h with ⟨rfl, ao, c, rfl⟩ | ⟨b, o, cp, rfl, _⟩
  · exact ⟨ao, c, rfl⟩
  · exact ⟨_, _, rfl⟩

theorem Bals.len {w : World} {v : Value} {ds : List BalD} (h : Bals w v ds) : ds.length ≤ 140737488355328 := by
  rcases h with ⟨rfl, _⟩ | ⟨b, o, cp, rfl, _, h, _⟩
  · simp
  · exact h

/-- Where there are some. -/
theorem Bals.head {w : World} {v : Value} {ds : List BalD} (h : Bals w v ds) (h0 : 0 < ds.length) : ∃ b o c, v = .slice (some ⟨b, o, none⟩) ds.length c ∧ b < w.heap.size ∧ ds.length ≤ 140737488355328 ∧ ds.length ≤ c ∧ ∀ i d, ds[i]? = some d → BalIn w b (o + i * 13) d := by
  rcases h with ⟨rfl, _⟩ | h
  · simp at h0
  · exact h

theorem Bals.at {w : World} {ao : Option Addr} {n c : Nat} {ds : List BalD} (h : Bals w (.slice ao n c) ds) {i : Nat} {d : BalD} (hi : ds[i]? = some d) : ∃ b o, ao = some ⟨b, o, none⟩ ∧ b < w.heap.size ∧ BalIn w b (o + i * 13) d := by
  rcases h with ⟨rfl, _⟩ | ⟨b, o, cp, hv, hb, _, _, h⟩
  · simp at hi
  · obtain ⟨rfl, -, -⟩ : ao = some ⟨b, o, none⟩ ∧ n = ds.length ∧ c = cp := by simpa using hv
    exact ⟨b, o, rfl, hb, h i d hi⟩

theorem BalIn.chg {w w' : World} {b o : Nat} {d : BalD} (k : BalIn w b o d) (hb : b < w.heap.size) (c : Chg [] w w') : BalIn w' b o d :=
  ⟨(c.cell (p := ⟨b, _, none⟩) hb (by simp)).trans k.c0, (c.cell (p := ⟨b, _, none⟩) hb (by simp)).trans k.c1, (c.cell (p := ⟨b, _, none⟩) hb (by simp)).trans k.c2, (c.cell (p := ⟨b, _, none⟩) hb (by simp)).trans k.c3, (c.cell (p := ⟨b, _, none⟩) hb (by simp)).trans k.c4, (c.cell (p := ⟨b, _, none⟩) hb (by simp)).trans k.c5, (c.cell (p := ⟨b, _, none⟩) hb (by simp)).trans k.c6, (c.cell (p := ⟨b, _, none⟩) hb (by simp)).trans k.c7, (c.cell (p := ⟨b, _, none⟩) hb (by simp)).trans k.c8, (c.cell (p := ⟨b, _, none⟩) hb (by simp)).trans k.c9, (c.cell (p := ⟨b, _, none⟩) hb (by simp)).trans k.c10, (c.cell (p := ⟨b, _, none⟩) hb (by simp)).trans k.c11, (c.cell (p := ⟨b, _, none⟩) hb (by simp)).trans k.c12, k.sl.chg c (by simp), k.big, k.fit⟩

theorem Bals.chg {w w' : World} {v : Value} {ds : List BalD} (h : Bals w v ds) (c : Chg [] w w') : Bals w' v ds := by
  rcases h with h | ⟨b, o, cp, rfl, hb, hl, hc, h⟩
  · exact .inl h
  · exact .inr ⟨b, o, cp, rfl, Nat.lt_of_lt_of_le hb c.size, hl, hc, fun i d hd => (h i d hd).chg hb c⟩

section
open Go.ChangeShapes Go.WideShapes Go.Deep Go.ChangeAt
variable {H : Type} {enc : TypeId × Value → H} {W : World}

theorem cells_bal : Try.prog.cellsOf 39 = 13 := by kernel_rfl
theorem bytes_bal : 1 ≤ Try.prog.bytesOf 39 := of_decide_eq_true (by kernel_rfl)

theorem list13 {α : Type} {l : List α} (h : l.length = 13) : ∃ h0 c0 c1 c2 c3 c4 c5 c6 c7 c8 c9 ca cb, l = [h0, c0, c1, c2, c3, c4, c5, c6, c7, c8, c9, ca, cb] := by
  match l, h with
  | [h0, c0, c1, c2, c3, c4, c5, c6, c7, c8, c9, ca, cb], _ => exact ⟨h0, c0, c1, c2, c3, c4, c5, c6, c7, c8, c9, ca, cb, rfl⟩

set_option maxRecDepth 100000 in
theorem open_bals {fuel : Nat} {v : Value} {x : DataW H × List MemPlace} (h : DataW.trod enc Try.prog W 0 (fun _ => true) true fuel 22 [v] = some x) (hf : Fits 22 x.1) : ∃ ds, Bals W v ds := by
  rcases open_slice Try.underlying22 h with ⟨hcs, hx⟩ | ⟨a, len, cap, m, n, D, Pl, hcs, _, hl, hm, hmm, hx, hi⟩
  · obtain rfl : v = .slice none 0 0 := by simpa using hcs
    exact ⟨[], .inl ⟨rfl, _, _, rfl⟩⟩
  · obtain rfl : v = .slice (some a) len cap := by simpa using hcs
    simp only [if_true] at hmm
    subst hx
    rw [cells_bal] at hi
    have hbig : len ≤ 140737488355328 := by
      have h1 := Fits.len hf Try.underlying22
      have h2 := bytes_bal
      simp only [List.length_map, List.length_range, reachBytes] at h1
      have h3 : len ≤ (len + (m - len)) * Try.prog.bytesOf 39 := Nat.le_trans (Nat.le_add_right _ _) (Nat.le_mul_of_pos_right _ h2)
      omega
    by_cases h0 : len = 0
    · subst h0
      exact ⟨[], .inl ⟨rfl, _, _, rfl⟩⟩
    · have hcell : ∀ i, i < m → ∃ cs, cs.length = 13 ∧ (∀ j u, cs[j]? = some u → W.cell? ((a.add (i * 13)).add j) = some u) ∧ DataW.trod enc Try.prog W 0 (fun _ => true) true n 39 cs = some (D i, Pl i) := fun i him => by
        obtain ⟨cs', hc, ht⟩ := hi i him
        obtain ⟨_, hcl, hat⟩ := World.cells?_some hc
        refine ⟨cs', hcl, fun j u hj => ?_, ht⟩
        have hj4 : j < 13 := by rw [← hcl]; exact (List.getElem?_eq_some_iff.1 hj).1
        rw [hat j hj4]
        exact hj
      have hsp : a.spot = none ∧ a.block < W.heap.size := by
        obtain ⟨cs, hcl, hu, _⟩ := hcell 0 (by omega)
        obtain ⟨h0, c0, c1, c2, c3, c4, c5, c6, c7, c8, c9, ca, cb, rfl⟩ := list13 hcl
        have h1 := hu 0 h0 rfl
        have h1 : W.cell? a = some h0 := by simpa [Addr.add] using h1
        exact ⟨by simpa using World.cell?_spot h1, World.block_lt_of_cell? W _ h1⟩
      obtain ⟨b, off, spot⟩ := a
      obtain ⟨rfl, hb⟩ : spot = none ∧ b < W.heap.size := hsp
      have hex : ∀ i, i < len → ∃ d : BalD, BalIn W b (off + i * 13) d := by
        intro i hil
        obtain ⟨cs, hcl, hu, t1⟩ := hcell i (by omega)
        obtain ⟨h0, c0, c1, c2, c3, c4, c5, c6, c7, c8, c9, ca, cb, rfl⟩ := list13 hcl
        have c64 : Try.prog.cellsOf 4 = 1 := by kernel_rfl
        obtain ⟨q0, q1, n2, hq, _, s0, s1⟩ := trod_struct2 Try.underlying39 t1
        dsimp only at s0 s1
        rw [c64] at s0
        rw [cells_super] at s1
        have s0 : DataW.trod enc Try.prog W 0 (fun _ => true) true n2 4 [h0] = some q0 := s0
        have s1 : DataW.trod enc Try.prog W 0 (fun _ => true) true n2 29 [c0, c1, c2, c3, c4, c5, c6, c7, c8, c9, ca, cb] = some q1 := s1
        obtain ⟨z, e0, _⟩ := DataW.trod_bool Try.underlying4 s0
        obtain rfl : h0 = .bool z := by simpa using e0
        have h1 : Fits 39 (D i) := Fits.elem hf Try.underlying22 (List.mem_map.2 ⟨i, List.mem_range.2 hil, rfl⟩)
        have hY : D i = .agg [q0.1, q1.1] := congrArg Prod.fst hq
        rw [hY] at h1
        have h2 : Fits 29 q1.1 := Fits.field h1 Try.underlying39 (j := 1) rfl rfl
        obtain ⟨s, u, hft, hcs, hsl, hbg⟩ := open_super12 s1 h2
        simp only [List.cons.injEq, and_true] at hcs
        obtain ⟨rfl, rfl, rfl, rfl, rfl, rfl, rfl, rfl, rfl, rfl, rfl, rfl⟩ := hcs
        have g0 := hu 0 _ rfl
        have g1 := hu 1 _ rfl
        have g2 := hu 2 _ rfl
        have g3 := hu 3 _ rfl
        have g4 := hu 4 _ rfl
        have g5 := hu 5 _ rfl
        have g6 := hu 6 _ rfl
        have g7 := hu 7 _ rfl
        have g8 := hu 8 _ rfl
        have g9 := hu 9 _ rfl
        have g10 := hu 10 _ rfl
        have g11 := hu 11 _ rfl
        have g12 := hu 12 _ rfl
        simp only [Addr.add_lit] at g0 g1 g2 g3 g4 g5 g6 g7 g8 g9 g10 g11 g12
        exact ⟨⟨z, s, ca⟩, ⟨g0, g1, g2, g3, g4, g5, g6, g7, g8, g9, g10, g11, g12, hsl, hbg, hft⟩⟩
      have : Inhabited BalD := ⟨⟨false, Sup.nil, undef⟩⟩
      obtain ⟨f, hfn⟩ := Go.Deep.choose_lt hex
      refine ⟨(List.range len).map f, .inr ⟨b, off, cap, by simp, hb, by simpa using hbig, by simpa using hl, fun i d hd => ?_⟩⟩
      rw [List.getElem?_map] at hd
      obtain ⟨i', hi', rfl⟩ := Option.map_eq_some_iff.1 hd
      obtain ⟨h1, h2⟩ := List.getElem?_eq_some_iff.1 hi'
      rw [List.getElem_range] at h2
      subst h2
      exact hfn i (by simpa using h1)
end

end Go.Proofs.Ytffpjefecmkfmaa
