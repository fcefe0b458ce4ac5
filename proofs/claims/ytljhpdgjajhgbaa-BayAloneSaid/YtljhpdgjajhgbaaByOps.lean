/-
  Structs that came in: a slice of BOp. By an AI agent.
-/
import Derived.Test.YtljhpdgjajhgbaaGInMore
namespace Go.Proofs.Ytljhpdgjajhgbaa
open Go.RowKit

/-- One of them. -/
structure BOpD where
  kind : Int
  pos : Int
  num : Int
  dataV : Value
  data : List Int
  keepsV : Value
  keeps : List BoolD

/-- It lies at b, o. -/
structure BOpIn (w : World) (b o : Nat) (d : BOpD) : Prop where
  c0 : w.cell? ⟨b, o, none⟩ = some (.int .i64 d.kind)
  c1 : w.cell? ⟨b, o + 1, none⟩ = some (.int .i64 d.pos)
  c2 : w.cell? ⟨b, o + 2, none⟩ = some (.int .i64 d.num)
  c3 : w.cell? ⟨b, o + 3, none⟩ = some (d.dataV)
  c4 : w.cell? ⟨b, o + 4, none⟩ = some (d.keepsV)
  r0 : -9223372036854775808 ≤ d.kind ∧ d.kind ≤ 9223372036854775807
  r1 : -9223372036854775808 ≤ d.pos ∧ d.pos ≤ 9223372036854775807
  r2 : -9223372036854775808 ≤ d.num ∧ d.num ≤ 9223372036854775807
  s3 : Sl w d.dataV d.data
  y3 : By d.data
  g3 : d.data.length ≤ 140737488355328
  p3 : ∀ ao n c, d.dataV = .slice ao n c → n ≤ c
  s4 : BRs w d.keepsV d.keeps

/-- What lies there is older than the world. -/
theorem BRs.old {w : World} {v : Value} {ds : List BoolD} (h : BRs w v ds) (hx : ds ≠ []) : ∀ k, v.ownBlock = some k → k < w.heap.size := by
  rcases h with ⟨h0, _⟩ | ⟨b, o, c, rfl, hb, _⟩
  · exact absurd h0 hx
  · intro k hk
    have : b = k := Option.some.inj hk
    omega

theorem BRs.olds {w : World} {v : Value} {ds : List BoolD} (h : BRs w v ds) : ∀ d ∈ ds, d.bs ≠ [] → ∀ k, d.v.ownBlock = some k → k < w.heap.size := by
  intro d hd hn k hk
  rcases h with ⟨rfl, _⟩ | ⟨b, o, c, rfl, hb, _, h⟩
  · cases hd
  · obtain ⟨i, hi⟩ := List.mem_iff_getElem?.1 hd
    rcases (h i d hi).rd with ⟨h0, _⟩ | ⟨b2, o2, c2, hv, hb2, _⟩
    · exact absurd (by simpa using h0) hn
    · rw [hv] at hk
      have : b2 = k := Option.some.inj hk
      omega

/-- The slice v reads as these. -/
def BOps (w : World) (v : Value) (ds : List BOpD) : Prop :=
  (ds = [] ∧ ∃ ao c, v = .slice ao 0 c) ∨ ∃ b o c, v = .slice (some ⟨b, o, none⟩) ds.length c ∧ b < w.heap.size ∧ ds.length ≤ 140737488355328 ∧ ∀ i d, ds[i]? = some d → BOpIn w b (o + i * 5) d

theorem BOps.slice {w : World} {v : Value} {ds : List BOpD} (h : BOps w v ds) : ∃ ao c, v = .slice ao ds.length c := by
  rcases h with ⟨rfl, ao, c, rfl⟩ | ⟨b, o, cp, rfl, _⟩
  · exact ⟨ao, c, rfl⟩
  · exact ⟨_, _, rfl⟩

theorem BOps.len {w : World} {v : Value} {ds : List BOpD} (h : BOps w v ds) : ds.length ≤ 140737488355328 := by
  rcases h with ⟨rfl, _⟩ | ⟨b, o, cp, rfl, _, h, _⟩
  · simp
  · exact h

/-- The i-th of them. -/
theorem BOps.at {w : World} {ao : Option Addr} {n c : Nat} {ds : List BOpD} (h : BOps w (.slice ao n c) ds) {i : Nat} {d : BOpD} (hi : ds[i]? = some d) : ∃ b o, ao = some ⟨b, o, none⟩ ∧ b < w.heap.size ∧ BOpIn w b (o + i * 5) d := by
  rcases h with ⟨rfl, _⟩ | ⟨b, o, cp, hv, hb, _, h⟩
  · simp at hi
  · obtain ⟨rfl, -, -⟩ : ao = some ⟨b, o, none⟩ ∧ n = ds.length ∧ c = cp := by simpa using hv
    exact ⟨b, o, rfl, hb, h i d hi⟩

theorem BOpIn.chg {w w' : World} {b o : Nat} {d : BOpD} (k : BOpIn w b o d) (hb : b < w.heap.size) (c : Chg [] w w') : BOpIn w' b o d :=
  ⟨(c.cell (p := ⟨b, _, none⟩) hb (by simp)).trans k.c0, (c.cell (p := ⟨b, _, none⟩) hb (by simp)).trans k.c1, (c.cell (p := ⟨b, _, none⟩) hb (by simp)).trans k.c2, (c.cell (p := ⟨b, _, none⟩) hb (by simp)).trans k.c3, (c.cell (p := ⟨b, _, none⟩) hb (by simp)).trans k.c4, k.r0, k.r1, k.r2, k.s3.chgNil c, k.y3, k.g3, k.p3, k.s4.chgNil c⟩

/-- They read the same while nothing that was there is turned. -/
theorem BOps.chg {w w' : World} {v : Value} {ds : List BOpD} (h : BOps w v ds) (c : Chg [] w w') : BOps w' v ds := by
  rcases h with h | ⟨b, o, cp, rfl, hb, hl, h⟩
  · exact .inl h
  · exact .inr ⟨b, o, cp, rfl, Nat.lt_of_lt_of_le hb c.size, hl, fun i d hd => (h i d hd).chg hb c⟩

section
open Go.ChangeShapes Go.WideShapes Go.Deep Go.ChangeAt
variable {H : Type} {enc : TypeId × Value → H} {W : World}

theorem cells_bop : Try.prog.cellsOf 28 = 5 := by kernel_rfl
theorem bytes_bop : 1 ≤ Try.prog.bytesOf 28 := of_decide_eq_true (by kernel_rfl)

theorem open_bops {fuel : Nat} {v : Value} {x : DataW H × List MemPlace} (h : DataW.trod enc Try.prog W 0 (fun _ => true) true fuel 23 [v] = some x) (hf : Fits 23 x.1) : ∃ ds, BOps W v ds := by
  rcases open_slice_fields Try.underlying23 Try.underlying28 (by kernel_rfl) cells_bop h with ⟨hcs, hx⟩ | ⟨a, len, cap, m, D, Pl, hcs, _, hl, hm, hmm, hx, hi⟩
  · obtain rfl : v = .slice none 0 0 := by simpa using hcs
    exact ⟨[], .inl ⟨rfl, _, _, rfl⟩⟩
  · obtain rfl : v = .slice (some a) len cap := by simpa using hcs
    simp only [if_true] at hmm
    subst hx
    have hbig : len ≤ 140737488355328 := by
      have h1 := Fits.len hf Try.underlying23
      have h2 := bytes_bop
      simp only [List.length_map, List.length_range, reachBytes] at h1
      have h3 : len ≤ (len + (m - len)) * Try.prog.bytesOf 28 := Nat.le_trans (Nat.le_add_right _ _) (Nat.le_mul_of_pos_right _ h2)
      omega
    by_cases h0 : len = 0
    · subst h0
      exact ⟨[], .inl ⟨rfl, _, _, rfl⟩⟩
    · have hsp : a.spot = none ∧ a.block < W.heap.size := by
        obtain ⟨ys, n, hD, _, _, hfl⟩ := hi 0 (by omega)
        obtain ⟨u, y, hc, _⟩ := hfl 0 _ rfl
        have h1 : W.cell? a = some u := by simpa [Addr.add] using hc
        exact ⟨by simpa using World.cell?_spot h1, World.block_lt_of_cell? W _ h1⟩
      obtain ⟨b, off, spot⟩ := a
      obtain ⟨rfl, hb⟩ : spot = none ∧ b < W.heap.size := hsp
      have hex : ∀ i, i < len → ∃ d, BOpIn W b (off + i * 5) d := by
        intro i hil
        obtain ⟨ys, n, hD, _, hyl, hfl⟩ := hi i (by omega)
        have hel : Fits 28 (D i) := Fits.elem hf Try.underlying23 (List.mem_map.2 ⟨i, List.mem_range.2 hil, rfl⟩)
        rw [hD] at hel
        obtain ⟨u0, y0, c0, g0, t0⟩ := hfl 0 _ rfl
        obtain ⟨z0, e0, _, w0⟩ := DataW.trod_int Try.underlying3 t0
        obtain rfl : u0 = .int .i64 z0 := by simpa using e0
        obtain ⟨u1, y1, c1, g1, t1⟩ := hfl 1 _ rfl
        obtain ⟨z1, e1, _, w1⟩ := DataW.trod_int Try.underlying3 t1
        obtain rfl : u1 = .int .i64 z1 := by simpa using e1
        obtain ⟨u2, y2, c2, g2, t2⟩ := hfl 2 _ rfl
        obtain ⟨z2, e2, _, w2⟩ := DataW.trod_int Try.underlying3 t2
        obtain rfl : u2 = .int .i64 z2 := by simpa using e2
        obtain ⟨u3, y3, c3, g3, t3⟩ := hfl 3 _ rfl
        have hf3 : Fits 26 y3.1 := Fits.field hel Try.underlying28 (j := 3) rfl (by rw [List.getElem?_map, g3]; rfl)
        obtain ⟨z3, hs3, hy3, hg3⟩ := open_bytes_fit t3 hf3
        obtain ⟨u4, y4, c4, g4, t4⟩ := hfl 4 _ rfl
        have hf4 : Fits 24 y4.1 := Fits.field hel Try.underlying28 (j := 4) rfl (by rw [List.getElem?_map, g4]; rfl)
        obtain ⟨z4, hs4⟩ := open_boolrows t4 hf4
        rw [Addr.add_lit] at c0 c1 c2 c3 c4
        exact ⟨⟨z0, z1, z2, u3, z3, u4, z4⟩, c0, c1, c2, c3, c4, bounds_i64 w0, bounds_i64 w1, bounds_i64 w2, hs3, hy3, hg3, open_bytes_cap t3, hs4⟩
      have : Inhabited BOpD := ⟨⟨0, 0, 0, undef, [], undef, []⟩⟩
      obtain ⟨f, hfn⟩ := Go.Deep.choose_lt hex
      refine ⟨(List.range len).map f, .inr ⟨b, off, cap, by simp, hb, by simpa using hbig, fun i d hd => ?_⟩⟩
      rw [List.getElem?_map] at hd
      obtain ⟨i', hi', rfl⟩ := Option.map_eq_some_iff.1 hd
      obtain ⟨h1, h2⟩ := List.getElem?_eq_some_iff.1 hi'
      rw [List.getElem_range] at h2
      subst h2
      exact hfn i (by simpa using h1)
end
end Go.Proofs.Ytljhpdgjajhgbaa
