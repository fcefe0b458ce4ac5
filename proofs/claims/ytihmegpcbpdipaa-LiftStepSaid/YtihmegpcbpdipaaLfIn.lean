/-
  Acts of a lift that came in: a slice of structs that hold a patch. By an AI agent.
-/
import Derived.Test.YtihmegpcbpdipaaGPt
import Derived.Test.YtihmegpcbpdipaaGInMore
import Derived.Deep.Strs
namespace Go.Proofs.Ytihmegpcbpdipaa
open Go.RowKit

/-- An act: its kind, and a patch. -/
structure LActD where
  kind : Int
  p : PtD

structure LActIn (w : World) (b o : Nat) (d : LActD) : Prop where
  k0 : w.cell? ⟨b, o, none⟩ = some (.int .u8 d.kind)
  pt : PtIn w b (o + 1) d.p
  by_ : By d.p.d
  rk : 0 ≤ d.kind ∧ d.kind ≤ 255

def LActs (w : World) (v : Value) (ds : List LActD) : Prop :=
  (ds = [] ∧ ∃ ao c, v = .slice ao 0 c) ∨ ∃ b o c, v = .slice (some ⟨b, o, none⟩) ds.length c ∧ b < w.heap.size ∧ ds.length ≤ 140737488355328 ∧ ∀ i d, ds[i]? = some d → LActIn w b (o + i * 4) d

theorem LActs.slice {w : World} {v : Value} {ds : List LActD} (h : LActs w v ds) : ∃ ao c, v = .slice ao ds.length c := by
  rcases h with ⟨rfl, ao, c, rfl⟩ | ⟨b, o, cp, rfl, _⟩
  · exact ⟨ao, c, rfl⟩
  · exact ⟨_, _, rfl⟩

theorem LActs.at {w : World} {ao : Option Addr} {n c : Nat} {ds : List LActD} (h : LActs w (.slice ao n c) ds) {i : Nat} {d : LActD} (hi : ds[i]? = some d) : ∃ b o, ao = some ⟨b, o, none⟩ ∧ b < w.heap.size ∧ LActIn w b (o + i * 4) d := by
  rcases h with ⟨rfl, _⟩ | ⟨b, o, cp, hv, hb, _, h⟩
  · simp at hi
  · obtain ⟨rfl, -, -⟩ : ao = some ⟨b, o, none⟩ ∧ n = ds.length ∧ c = cp := by simpa using hv
    exact ⟨b, o, rfl, hb, h i d hi⟩

theorem LActs.chg {w w' : World} {v : Value} {ds : List LActD} (h : LActs w v ds) (c : Chg [] w w') : LActs w' v ds := by
  rcases h with h | ⟨b, o, cp, rfl, hb, hl, h⟩
  · exact .inl h
  · exact .inr ⟨b, o, cp, rfl, Nat.lt_of_lt_of_le hb c.size, hl, fun i d hd => ⟨(c.cell (p := ⟨b, _, none⟩) hb (by simp)).trans (h i d hd).k0, (h i d hd).pt.chg hb c (by simp) (by simp), (h i d hd).by_, (h i d hd).rk⟩⟩

section
open Go.ChangeShapes Go.WideShapes Go.Deep Go.ChangeAt
variable {H : Type} {enc : TypeId × Value → H} {W : World}

theorem cells_lact : Try.prog.cellsOf 51 = 4 := by kernel_rfl
theorem cells_patch : Try.prog.cellsOf 49 = 3 := by kernel_rfl
theorem bytes_lact : 1 ≤ Try.prog.bytesOf 51 := of_decide_eq_true (by kernel_rfl)

theorem open_lacts {fuel : Nat} {v : Value} {x : DataW H × List MemPlace} (h : DataW.trod enc Try.prog W 0 (fun _ => true) true fuel 22 [v] = some x) (hf : Fits 22 x.1) : ∃ ds, LActs W v ds := by
  rcases open_slice Try.underlying22 h with ⟨hcs, hx⟩ | ⟨a, len, cap, m, n, D, Pl, hcs, _, hl, hm, hmm, hx, hi⟩
  · obtain rfl : v = .slice none 0 0 := by simpa using hcs
    exact ⟨[], .inl ⟨rfl, _, _, rfl⟩⟩
  · obtain rfl : v = .slice (some a) len cap := by simpa using hcs
    simp only [if_true] at hmm
    subst hx
    rw [cells_lact] at hi
    have hbig : len ≤ 140737488355328 := by
      have h1 := Fits.len hf Try.underlying22
      have h2 := bytes_lact
      simp only [List.length_map, List.length_range, reachBytes] at h1
      have h3 : len ≤ (len + (m - len)) * Try.prog.bytesOf 51 := Nat.le_trans (Nat.le_add_right _ _) (Nat.le_mul_of_pos_right _ h2)
      omega
    by_cases h0 : len = 0
    · subst h0
      exact ⟨[], .inl ⟨rfl, _, _, rfl⟩⟩
    · have hcell : ∀ i, i < m → ∃ u0 u1 u2 u3, W.cells? 0 (a.add (i * 4)) 4 = some [u0, u1, u2, u3] ∧ (∀ j u, [u0, u1, u2, u3][j]? = some u → W.cell? ((a.add (i * 4)).add j) = some u) ∧ DataW.trod enc Try.prog W 0 (fun _ => true) true n 51 [u0, u1, u2, u3] = some (D i, Pl i) := fun i him => by
        obtain ⟨cs', hc, ht⟩ := hi i him
        obtain ⟨_, hcl, hat⟩ := World.cells?_some hc
        match cs', hcl, hat with
        | [u0, u1, u2, u3], _, hat =>
          refine ⟨u0, u1, u2, u3, hc, fun j u hj => ?_, ht⟩
          have hj4 : j < 4 := (List.getElem?_eq_some_iff.1 hj).1
          rw [hat j hj4]
          exact hj
      have hsp : a.spot = none ∧ a.block < W.heap.size := by
        obtain ⟨u0, u1, u2, u3, _, hu, _⟩ := hcell 0 (by omega)
        have h1 := hu 0 u0 rfl
        have h1 : W.cell? a = some u0 := by simpa [Addr.add] using h1
        exact ⟨by simpa using World.cell?_spot h1, World.block_lt_of_cell? W _ h1⟩
      obtain ⟨b, off, spot⟩ := a
      obtain ⟨rfl, hb⟩ : spot = none ∧ b < W.heap.size := hsp
      have hex : ∀ i, i < len → ∃ d, LActIn W b (off + i * 4) d := by
        intro i hil
        obtain ⟨u0, u1, u2, u3, _, hu, ht⟩ := hcell i (by omega)
        obtain ⟨y0, y1, n1, hxy, _, t0, t1⟩ := trod_struct2 Try.underlying51 ht
        have c8 : Try.prog.cellsOf 5 = 1 := by kernel_rfl
        have c64 : Try.prog.cellsOf 3 = 1 := by kernel_rfl
        have cby : Try.prog.cellsOf 47 = 1 := by kernel_rfl
        dsimp only at t0 t1
        rw [c8] at t0
        rw [cells_patch] at t1
        have t0 : DataW.trod enc Try.prog W 0 (fun _ => true) true n1 5 [u0] = some y0 := t0
        have t1 : DataW.trod enc Try.prog W 0 (fun _ => true) true n1 49 [u1, u2, u3] = some y1 := t1
        obtain ⟨z0, e0, _, w0⟩ := DataW.trod_int Try.underlying5 t0
        obtain rfl : u0 = .int .u8 z0 := by simpa using e0
        obtain ⟨q0, q1, q2, n2, hq, _, s0, s1, s2⟩ := trod_struct3 Try.underlying49 t1
        dsimp only at s0 s1 s2
        rw [c64] at s0 s1
        rw [cby] at s2
        have s0 : DataW.trod enc Try.prog W 0 (fun _ => true) true n2 3 [u1] = some q0 := s0
        have s1 : DataW.trod enc Try.prog W 0 (fun _ => true) true n2 3 [u2] = some q1 := s1
        have s2 : DataW.trod enc Try.prog W 0 (fun _ => true) true n2 47 [u3] = some q2 := s2
        obtain ⟨z1, e1, _, _⟩ := DataW.trod_int Try.underlying3 s0
        obtain rfl : u1 = .int .i64 z1 := by simpa using e1
        obtain ⟨z2, e2, _, _⟩ := DataW.trod_int Try.underlying3 s1
        obtain rfl : u2 = .int .i64 z2 := by simpa using e2
        have hel : Fits 51 (D i) := Fits.elem hf Try.underlying22 (List.mem_map.2 ⟨i, List.mem_range.2 hil, rfl⟩)
        have hD : D i = .agg [y0.1, y1.1] := congrArg Prod.fst hxy
        rw [hD] at hel
        have h1 : Fits 49 y1.1 := Fits.field hel Try.underlying51 (j := 1) rfl rfl
        have hY : y1.1 = .agg [q0.1, q1.1, q2.1] := congrArg Prod.fst hq
        rw [hY] at h1
        have h2 : Fits 47 q2.1 := Fits.field h1 Try.underlying49 (j := 2) rfl rfl
        obtain ⟨xs, hs, hy, hg⟩ := open_bytes_fit s2 h2
        have g0 := hu 0 _ rfl
        have g1 := hu 1 _ rfl
        have g2 := hu 2 _ rfl
        have g3 := hu 3 _ rfl
        simp only [Addr.add_lit] at g0 g1 g2 g3
        exact ⟨⟨z0, ⟨z1, z2, u3, xs⟩⟩, g0, ⟨g1, g2, g3, hs, hg⟩, hy, bounds_u8 w0⟩
      have : Inhabited LActD := ⟨⟨0, ⟨0, 0, undef, []⟩⟩⟩
      obtain ⟨f, hfn⟩ := Go.Deep.choose_lt hex
      refine ⟨(List.range len).map f, .inr ⟨b, off, cap, by simp, hb, by simpa using hbig, fun i d hd => ?_⟩⟩
      rw [List.getElem?_map] at hd
      obtain ⟨i', hi', rfl⟩ := Option.map_eq_some_iff.1 hd
      obtain ⟨h1, h2⟩ := List.getElem?_eq_some_iff.1 hi'
      rw [List.getElem_range] at h2
      subst h2
      exact hfn i (by simpa using h1)
end
end Go.Proofs.Ytihmegpcbpdipaa
