/-
  A superblock that comes in by value. By an AI agent. Printed by gen_spin.py.
-/
import Derived.Test.YtffpjefecmkfmaaBGIn
import Derived.Test.YtffpjefecmkfmaaBCrcMath
namespace Go.Proofs.Ytffpjefecmkfmaa
open Go.RowKit

/-- Its value: the list of states is u. -/
def Sup.val (s : Sup) (u : Value) : Value := .agg #[.int .u64 (s.id : Int), .int .u64 (s.ev : Int), .int .u64 (s.safe : Int), .int .i64 s.role, .int .i64 s.m, .int .i64 s.c, .int .i64 s.t, .int .i64 s.ring, .bool s.lazy, .bool s.lost, u, .int .i64 s.cur]

section
open Go.ChangeShapes Go.WideShapes Go.Deep Go.ChangeAt
variable {H : Type} {enc : TypeId × Value → H} {W : World}

theorem bytes_state : Try.prog.bytesOf 37 = 1 := by kernel_rfl
theorem cells_state : Try.prog.cellsOf 37 = 1 := by kernel_rfl
theorem cells_super : Try.prog.cellsOf 29 = 12 := by kernel_rfl
theorem cells_s64 : Try.prog.cellsOf 24 = 1 := by kernel_rfl
theorem cells_sint : Try.prog.cellsOf 3 = 1 := by kernel_rfl
theorem cells_sbool : Try.prog.cellsOf 4 = 1 := by kernel_rfl
theorem cells_ssl : Try.prog.cellsOf 27 = 1 := by kernel_rfl
theorem cells_sgeo : Try.prog.cellsOf 26 = 3 := by kernel_rfl

/-- States that came in, by their fit. -/
theorem open_states_fit {fuel : Nat} {v : Value} {x : DataW H × List MemPlace} (h : DataW.trod enc Try.prog W 0 (fun _ => true) true fuel 27 [v] = some x) (hf : Fits 27 x.1) :
    ∃ xs, Sl W v xs ∧ By xs ∧ xs.length ≤ 140737488355328 := by
  rcases open_ints Try.underlying27 Try.underlying37 cells_state h with ⟨hcs, hx⟩ | ⟨a, len, cap, zs, hcs, _, hl, hm, hz, hx, hcell, hwz⟩
  · obtain rfl : v = .slice none 0 0 := by simpa using hcs
    exact ⟨[], .inl ⟨rfl, _, _, rfl⟩, By.nil, by simp⟩
  · obtain rfl : v = .slice (some a) len cap := by simpa using hcs
    simp only [if_true] at hz
    have hby : By (zs.take len) := fun y hy => bounds_u8 (hwz y (List.mem_of_mem_take hy))
    have hlen : (zs.take len).length = len := by simp; omega
    have hbig : len ≤ 140737488355328 := by
      subst hx
      have := Fits.len hf Try.underlying27
      rw [bytes_state] at this
      simp only [lits, List.length_map, List.length_take, List.length_drop, reachBytes] at this
      omega
    by_cases h0 : len = 0
    · subst h0
      exact ⟨[], .inl ⟨rfl, _, _, rfl⟩, By.nil, by simp⟩
    · obtain ⟨b, off, spot⟩ := a
      obtain rfl : spot = none := by simpa [Addr.add] using World.cell?_spot (hcell 0 (by omega))
      refine ⟨zs.take len, .inr ⟨b, off, cap, by rw [hlen], ?_, fun j hj => ?_⟩, hby, by omega⟩
      · have := hcell 0 (by omega)
        exact World.block_lt_of_cell? W _ this
      · have := hcell j (by omega)
        rw [Addr.add_lit] at this
        rw [this]
        congr 2
        simp [List.getD, show j < len by omega]

theorem array12 {α : Type} {cs : Array α} (h : cs.size = 12) : ∃ c0 c1 c2 c3 c4 c5 c6 c7 c8 c9 ca cb, cs = #[c0, c1, c2, c3, c4, c5, c6, c7, c8, c9, ca, cb] := by
  obtain ⟨l⟩ := cs
  have h' : l.length = 12 := h
  match l, h' with
  | [c0, c1, c2, c3, c4, c5, c6, c7, c8, c9, ca, cb], _ => exact ⟨c0, c1, c2, c3, c4, c5, c6, c7, c8, c9, ca, cb, rfl⟩

theorem some_at {α : Type} {l : List α} {n i : Nat} (h : l.length = n) (hi : i < n) : ∃ y, l[i]? = some y := ⟨_, List.getElem?_eq_getElem (by omega)⟩

theorem open_geo {n : Nat} {c0 c1 c2 : Value} {y : DataW H × List MemPlace} (h : DataW.trod enc Try.prog W 0 (fun _ => true) true n 26 [c0, c1, c2] = some y) :
    ∃ m c t : Int, c0 = .int .i64 m ∧ c1 = .int .i64 c ∧ c2 = .int .i64 t ∧ (-9223372036854775808 ≤ m ∧ m ≤ 9223372036854775807) ∧ (-9223372036854775808 ≤ c ∧ c ≤ 9223372036854775807) ∧ (-9223372036854775808 ≤ t ∧ t ≤ 9223372036854775807) := by
  obtain ⟨xs, k, rfl, hx, _, hxl, hfl⟩ := DataW.trod_struct Try.underlying26 h
  have t0 : DataW.trod enc Try.prog W 0 (fun _ => true) true k 3 (List.take (Try.prog.cellsOf 3) (List.drop 0 [c0, c1, c2])) = xs[0]? := hfl 0 _ rfl
  have t1 : DataW.trod enc Try.prog W 0 (fun _ => true) true k 3 (List.take (Try.prog.cellsOf 3) (List.drop 1 [c0, c1, c2])) = xs[1]? := hfl 1 _ rfl
  have t2 : DataW.trod enc Try.prog W 0 (fun _ => true) true k 3 (List.take (Try.prog.cellsOf 3) (List.drop 2 [c0, c1, c2])) = xs[2]? := hfl 2 _ rfl
  obtain ⟨y0, e0⟩ := some_at (i := 0) hxl (by decide)
  obtain ⟨y1, e1⟩ := some_at (i := 1) hxl (by decide)
  obtain ⟨y2, e2⟩ := some_at (i := 2) hxl (by decide)
  rw [e0] at t0
  rw [e1] at t1
  rw [e2] at t2
  simp only [cells_sint, List.drop_succ_cons, List.drop_zero, List.take_succ_cons, List.take_zero] at t0 t1 t2
  obtain ⟨m, em, _, wm⟩ := DataW.trod_int Try.underlying3 t0
  obtain ⟨c, ec, _, wc⟩ := DataW.trod_int Try.underlying3 t1
  obtain ⟨t, et, _, wt⟩ := DataW.trod_int Try.underlying3 t2
  simp at em ec et
  exact ⟨m, c, t, em, ec, et, bounds_i64 wm, bounds_i64 wc, bounds_i64 wt⟩

set_option maxRecDepth 100000 in
theorem open_super12 {fuel : Nat} {c0 c1 c2 c3 c4 c5 c6 c7 c8 c9 ca cb : Value} {d : DataW H} {p : List MemPlace} (ht : DataW.trod enc Try.prog W 0 (fun _ => true) true fuel 29 [c0, c1, c2, c3, c4, c5, c6, c7, c8, c9, ca, cb] = some (d, p)) (hf : Fits 29 d) :
    ∃ (s : Sup) (u : Value), s.Fit ∧ [c0, c1, c2, c3, c4, c5, c6, c7, c8, c9, ca, cb] = [.int .u64 (s.id : Int), .int .u64 (s.ev : Int), .int .u64 (s.safe : Int), .int .i64 s.role, .int .i64 s.m, .int .i64 s.c, .int .i64 s.t, .int .i64 s.ring, .bool s.lazy, .bool s.lost, u, .int .i64 s.cur] ∧ Sl W u s.st ∧ s.st.length ≤ 140737488355328 := by
  obtain ⟨xs, n, rfl, hx, _, hxl, hfl⟩ := DataW.trod_struct Try.underlying29 ht
  have t0 : DataW.trod enc Try.prog W 0 (fun _ => true) true n 24 (List.take (Try.prog.cellsOf 24) (List.drop 0 [c0, c1, c2, c3, c4, c5, c6, c7, c8, c9, ca, cb])) = xs[0]? := hfl 0 _ rfl
  obtain ⟨y0, e0⟩ := some_at (i := 0) hxl (by decide)
  rw [e0] at t0
  have t1 : DataW.trod enc Try.prog W 0 (fun _ => true) true n 24 (List.take (Try.prog.cellsOf 24) (List.drop 1 [c0, c1, c2, c3, c4, c5, c6, c7, c8, c9, ca, cb])) = xs[1]? := hfl 1 _ rfl
  obtain ⟨y1, e1⟩ := some_at (i := 1) hxl (by decide)
  rw [e1] at t1
  have t2 : DataW.trod enc Try.prog W 0 (fun _ => true) true n 24 (List.take (Try.prog.cellsOf 24) (List.drop 2 [c0, c1, c2, c3, c4, c5, c6, c7, c8, c9, ca, cb])) = xs[2]? := hfl 2 _ rfl
  obtain ⟨y2, e2⟩ := some_at (i := 2) hxl (by decide)
  rw [e2] at t2
  have t3 : DataW.trod enc Try.prog W 0 (fun _ => true) true n 3 (List.take (Try.prog.cellsOf 3) (List.drop 3 [c0, c1, c2, c3, c4, c5, c6, c7, c8, c9, ca, cb])) = xs[3]? := hfl 3 _ rfl
  obtain ⟨y3, e3⟩ := some_at (i := 3) hxl (by decide)
  rw [e3] at t3
  have t4 : DataW.trod enc Try.prog W 0 (fun _ => true) true n 26 (List.take (Try.prog.cellsOf 26) (List.drop 4 [c0, c1, c2, c3, c4, c5, c6, c7, c8, c9, ca, cb])) = xs[4]? := hfl 4 _ rfl
  obtain ⟨y4, e4⟩ := some_at (i := 4) hxl (by decide)
  rw [e4] at t4
  have t5 : DataW.trod enc Try.prog W 0 (fun _ => true) true n 3 (List.take (Try.prog.cellsOf 3) (List.drop 7 [c0, c1, c2, c3, c4, c5, c6, c7, c8, c9, ca, cb])) = xs[5]? := hfl 5 _ rfl
  obtain ⟨y5, e5⟩ := some_at (i := 5) hxl (by decide)
  rw [e5] at t5
  have t6 : DataW.trod enc Try.prog W 0 (fun _ => true) true n 4 (List.take (Try.prog.cellsOf 4) (List.drop 8 [c0, c1, c2, c3, c4, c5, c6, c7, c8, c9, ca, cb])) = xs[6]? := hfl 6 _ rfl
  obtain ⟨y6, e6⟩ := some_at (i := 6) hxl (by decide)
  rw [e6] at t6
  have t7 : DataW.trod enc Try.prog W 0 (fun _ => true) true n 4 (List.take (Try.prog.cellsOf 4) (List.drop 9 [c0, c1, c2, c3, c4, c5, c6, c7, c8, c9, ca, cb])) = xs[7]? := hfl 7 _ rfl
  obtain ⟨y7, e7⟩ := some_at (i := 7) hxl (by decide)
  rw [e7] at t7
  have t8 : DataW.trod enc Try.prog W 0 (fun _ => true) true n 27 (List.take (Try.prog.cellsOf 27) (List.drop 10 [c0, c1, c2, c3, c4, c5, c6, c7, c8, c9, ca, cb])) = xs[8]? := hfl 8 _ rfl
  obtain ⟨y8, e8⟩ := some_at (i := 8) hxl (by decide)
  rw [e8] at t8
  have t9 : DataW.trod enc Try.prog W 0 (fun _ => true) true n 3 (List.take (Try.prog.cellsOf 3) (List.drop 11 [c0, c1, c2, c3, c4, c5, c6, c7, c8, c9, ca, cb])) = xs[9]? := hfl 9 _ rfl
  obtain ⟨y9, e9⟩ := some_at (i := 9) hxl (by decide)
  rw [e9] at t9
  simp only [cells_s64, cells_sint, cells_sbool, cells_ssl, cells_sgeo, List.drop_succ_cons, List.drop_zero, List.take_succ_cons, List.take_zero] at t0 t1 t2 t3 t4 t5 t6 t7 t8 t9
  have hd : d = .agg (xs.map (·.1)) := congrArg Prod.fst hx
  subst hd
  obtain ⟨z0, q0, _, w0⟩ := DataW.trod_int Try.underlying24 t0
  obtain rfl : c0 = .int .u64 z0 := by simpa using q0
  have b0 := bounds_u64 w0
  obtain ⟨z1, q1, _, w1⟩ := DataW.trod_int Try.underlying24 t1
  obtain rfl : c1 = .int .u64 z1 := by simpa using q1
  have b1 := bounds_u64 w1
  obtain ⟨z2, q2, _, w2⟩ := DataW.trod_int Try.underlying24 t2
  obtain rfl : c2 = .int .u64 z2 := by simpa using q2
  have b2 := bounds_u64 w2
  obtain ⟨z3, q3, _, w3⟩ := DataW.trod_int Try.underlying3 t3
  obtain rfl : c3 = .int .i64 z3 := by simpa using q3
  have b3 := bounds_i64 w3
  obtain ⟨z5, q5, _, w5⟩ := DataW.trod_int Try.underlying3 t5
  obtain rfl : c7 = .int .i64 z5 := by simpa using q5
  have b5 := bounds_i64 w5
  obtain ⟨z6, q6, _⟩ := DataW.trod_bool Try.underlying4 t6
  obtain rfl : c8 = .bool z6 := by simpa using q6
  obtain ⟨z7, q7, _⟩ := DataW.trod_bool Try.underlying4 t7
  obtain rfl : c9 = .bool z7 := by simpa using q7
  obtain ⟨z9, q9, _, w9⟩ := DataW.trod_int Try.underlying3 t9
  obtain rfl : cb = .int .i64 z9 := by simpa using q9
  have b9 := bounds_i64 w9
  obtain ⟨m, c, t, rfl, rfl, rfl, bm, bc, bt⟩ := open_geo t4
  have hf8 : Fits 27 y8.1 := Fits.field hf Try.underlying29 (j := 8) rfl (by rw [List.getElem?_map, e8]; rfl)
  obtain ⟨st, hs, hy, hg⟩ := open_states_fit t8 hf8
  obtain ⟨i0, rfl⟩ := Int.eq_ofNat_of_zero_le b0.1
  obtain ⟨i1, rfl⟩ := Int.eq_ofNat_of_zero_le b1.1
  obtain ⟨i2, rfl⟩ := Int.eq_ofNat_of_zero_le b2.1
  exact ⟨⟨i0, i1, i2, z3, m, c, t, z5, z6, z7, st, z9⟩, ca, ⟨by simp only; omega, by simp only; omega, by simp only; omega, b3, bm, bc, bt, b5, b9, hy⟩, rfl, hs, hg⟩

set_option maxRecDepth 100000 in
theorem open_super {base : Nat} {v : Value} {d : DataW H} {p : List MemPlace} (hv : Value.okWide Try.prog W .any base 29 v) (h : DataW.Trod enc Try.prog W 0 (fun _ => true) true 29 v d p) (hf : Fits 29 d) :
    ∃ (s : Sup) (u : Value), s.Fit ∧ v = s.val u ∧ Sl W u s.st ∧ s.st.length ≤ 140737488355328 := by
  obtain ⟨cs, rfl, hsz⟩ := okWide_struct Try.underlying29 hv
  obtain ⟨c0, c1, c2, c3, c4, c5, c6, c7, c8, c9, ca, cb, rfl⟩ := array12 (hsz.trans cells_super)
  obtain ⟨fuel, ht⟩ := h
  obtain ⟨s, u, h1, h2, h3, h4⟩ := open_super12 ht hf
  refine ⟨s, u, h1, ?_, h3, h4⟩
  unfold Sup.val
  rw [← h2]


end
end Go.Proofs.Ytffpjefecmkfmaa