/-
  A header, a commit, a checkpoint that comes in by value. By an AI agent. Printed by gen_rcin.py.
-/
import Derived.Test.YtnjemjkjbeingaaGIn
import Derived.Test.YtnjemjkjbeingaaRcEnc
namespace Go.Proofs.Ytnjemjkjbeingaa
open Go.RowKit

/-- Its numbers are of their types. -/
structure Hd.Fit (h : Hd) : Prop where
  ep : h.ep < 18446744073709551616
  sq : h.sq < 18446744073709551616
  sm : h.sm < 4294967296
structure Cm.Fit (h : Cm) : Prop where
  ep : h.ep < 18446744073709551616
  sq : h.sq < 18446744073709551616
  sm : h.sm < 4294967296
structure Ck.Fit (h : Ck) : Prop where
  ep : h.ep < 18446744073709551616
  sq : h.sq < 18446744073709551616

section
open Go.ChangeShapes Go.WideShapes Go.Deep Go.ChangeAt
variable {H : Type} {enc : TypeId × Value → H} {W : World}

theorem cells_r64 : Try.prog.cellsOf 22 = 1 := by kernel_rfl
theorem cells_r32 : Try.prog.cellsOf 23 = 1 := by kernel_rfl
theorem cells_rint : Try.prog.cellsOf 3 = 1 := by kernel_rfl
theorem cells_rbool : Try.prog.cellsOf 4 = 1 := by kernel_rfl
theorem some_at_r {α : Type} {l : List α} {n i : Nat} (h : l.length = n) (hi : i < n) : ∃ y, l[i]? = some y := ⟨_, List.getElem?_eq_getElem (by omega)⟩

theorem cells_header : Try.prog.cellsOf 25 = 8 := by kernel_rfl
theorem array_header {α : Type} {cs : Array α} (h : cs.size = 8) : ∃ c0 c1 c2 c3 c4 c5 c6 c7, cs = #[c0, c1, c2, c3, c4, c5, c6, c7] := by
  obtain ⟨l⟩ := cs
  have h' : l.length = 8 := h
  match l, h' with
  | [c0, c1, c2, c3, c4, c5, c6, c7], _ => exact ⟨c0, c1, c2, c3, c4, c5, c6, c7, rfl⟩

set_option maxRecDepth 100000 in
theorem open_header {base : Nat} {v : Value} {d : DataW H} {p : List MemPlace} (hv : Value.okWide Try.prog W .any base 25 v) (h : DataW.Trod enc Try.prog W 0 (fun _ => true) true 25 v d p) : ∃ s : Hd, s.Fit ∧ v = s.val := by
  obtain ⟨cs, rfl, hsz⟩ := okWide_struct Try.underlying25 hv
  obtain ⟨c0, c1, c2, c3, c4, c5, c6, c7, rfl⟩ := array_header (hsz.trans cells_header)
  obtain ⟨fuel, ht⟩ := h
  obtain ⟨xs, n, rfl, hx, _, hxl, hfl⟩ := DataW.trod_struct Try.underlying25 ht
  have t0 : DataW.trod enc Try.prog W 0 (fun _ => true) true n 22 (List.take (Try.prog.cellsOf 22) (List.drop 0 [c0, c1, c2, c3, c4, c5, c6, c7])) = xs[0]? := hfl 0 _ rfl
  obtain ⟨y0, e0⟩ := some_at_r (i := 0) hxl (by decide)
  rw [e0] at t0
  have t1 : DataW.trod enc Try.prog W 0 (fun _ => true) true n 22 (List.take (Try.prog.cellsOf 22) (List.drop 1 [c0, c1, c2, c3, c4, c5, c6, c7])) = xs[1]? := hfl 1 _ rfl
  obtain ⟨y1, e1⟩ := some_at_r (i := 1) hxl (by decide)
  rw [e1] at t1
  have t2 : DataW.trod enc Try.prog W 0 (fun _ => true) true n 3 (List.take (Try.prog.cellsOf 3) (List.drop 2 [c0, c1, c2, c3, c4, c5, c6, c7])) = xs[2]? := hfl 2 _ rfl
  obtain ⟨y2, e2⟩ := some_at_r (i := 2) hxl (by decide)
  rw [e2] at t2
  have t3 : DataW.trod enc Try.prog W 0 (fun _ => true) true n 3 (List.take (Try.prog.cellsOf 3) (List.drop 3 [c0, c1, c2, c3, c4, c5, c6, c7])) = xs[3]? := hfl 3 _ rfl
  obtain ⟨y3, e3⟩ := some_at_r (i := 3) hxl (by decide)
  rw [e3] at t3
  have t4 : DataW.trod enc Try.prog W 0 (fun _ => true) true n 3 (List.take (Try.prog.cellsOf 3) (List.drop 4 [c0, c1, c2, c3, c4, c5, c6, c7])) = xs[4]? := hfl 4 _ rfl
  obtain ⟨y4, e4⟩ := some_at_r (i := 4) hxl (by decide)
  rw [e4] at t4
  have t5 : DataW.trod enc Try.prog W 0 (fun _ => true) true n 3 (List.take (Try.prog.cellsOf 3) (List.drop 5 [c0, c1, c2, c3, c4, c5, c6, c7])) = xs[5]? := hfl 5 _ rfl
  obtain ⟨y5, e5⟩ := some_at_r (i := 5) hxl (by decide)
  rw [e5] at t5
  have t6 : DataW.trod enc Try.prog W 0 (fun _ => true) true n 4 (List.take (Try.prog.cellsOf 4) (List.drop 6 [c0, c1, c2, c3, c4, c5, c6, c7])) = xs[6]? := hfl 6 _ rfl
  obtain ⟨y6, e6⟩ := some_at_r (i := 6) hxl (by decide)
  rw [e6] at t6
  have t7 : DataW.trod enc Try.prog W 0 (fun _ => true) true n 23 (List.take (Try.prog.cellsOf 23) (List.drop 7 [c0, c1, c2, c3, c4, c5, c6, c7])) = xs[7]? := hfl 7 _ rfl
  obtain ⟨y7, e7⟩ := some_at_r (i := 7) hxl (by decide)
  rw [e7] at t7
  simp only [cells_r64, cells_rint, cells_rbool, cells_r32, List.drop_succ_cons, List.drop_zero, List.take_succ_cons, List.take_zero] at t0 t1 t2 t3 t4 t5 t6 t7
  obtain ⟨z0, q0, _, w0⟩ := DataW.trod_int Try.underlying22 t0
  obtain rfl : c0 = .int .u64 z0 := by simpa using q0
  have b0 := bounds_u64 w0
  obtain ⟨i0, rfl⟩ := Int.eq_ofNat_of_zero_le b0.1
  obtain ⟨z1, q1, _, w1⟩ := DataW.trod_int Try.underlying22 t1
  obtain rfl : c1 = .int .u64 z1 := by simpa using q1
  have b1 := bounds_u64 w1
  obtain ⟨i1, rfl⟩ := Int.eq_ofNat_of_zero_le b1.1
  obtain ⟨z2, q2, _, w2⟩ := DataW.trod_int Try.underlying3 t2
  obtain rfl : c2 = .int .i64 z2 := by simpa using q2
  have b2 := bounds_i64 w2
  obtain ⟨z3, q3, _, w3⟩ := DataW.trod_int Try.underlying3 t3
  obtain rfl : c3 = .int .i64 z3 := by simpa using q3
  have b3 := bounds_i64 w3
  obtain ⟨z4, q4, _, w4⟩ := DataW.trod_int Try.underlying3 t4
  obtain rfl : c4 = .int .i64 z4 := by simpa using q4
  have b4 := bounds_i64 w4
  obtain ⟨z5, q5, _, w5⟩ := DataW.trod_int Try.underlying3 t5
  obtain rfl : c5 = .int .i64 z5 := by simpa using q5
  have b5 := bounds_i64 w5
  obtain ⟨z6, q6, _⟩ := DataW.trod_bool Try.underlying4 t6
  obtain rfl : c6 = .bool z6 := by simpa using q6
  obtain ⟨z7, q7, _, w7⟩ := DataW.trod_int Try.underlying23 t7
  obtain rfl : c7 = .int .u32 z7 := by simpa using q7
  have b7 := bounds_u32 w7
  obtain ⟨i7, rfl⟩ := Int.eq_ofNat_of_zero_le b7.1
  exact ⟨⟨i0, i1, z2, z3, z4, z5, z6, i7⟩, ⟨by simp only; omega, by simp only; omega, by simp only; omega⟩, rfl⟩

theorem cells_commit : Try.prog.cellsOf 27 = 4 := by kernel_rfl
theorem array_commit {α : Type} {cs : Array α} (h : cs.size = 4) : ∃ c0 c1 c2 c3, cs = #[c0, c1, c2, c3] := by
  obtain ⟨l⟩ := cs
  have h' : l.length = 4 := h
  match l, h' with
  | [c0, c1, c2, c3], _ => exact ⟨c0, c1, c2, c3, rfl⟩

set_option maxRecDepth 100000 in
theorem open_commit {base : Nat} {v : Value} {d : DataW H} {p : List MemPlace} (hv : Value.okWide Try.prog W .any base 27 v) (h : DataW.Trod enc Try.prog W 0 (fun _ => true) true 27 v d p) : ∃ s : Cm, s.Fit ∧ v = s.val := by
  obtain ⟨cs, rfl, hsz⟩ := okWide_struct Try.underlying27 hv
  obtain ⟨c0, c1, c2, c3, rfl⟩ := array_commit (hsz.trans cells_commit)
  obtain ⟨fuel, ht⟩ := h
  obtain ⟨xs, n, rfl, hx, _, hxl, hfl⟩ := DataW.trod_struct Try.underlying27 ht
  have t0 : DataW.trod enc Try.prog W 0 (fun _ => true) true n 22 (List.take (Try.prog.cellsOf 22) (List.drop 0 [c0, c1, c2, c3])) = xs[0]? := hfl 0 _ rfl
  obtain ⟨y0, e0⟩ := some_at_r (i := 0) hxl (by decide)
  rw [e0] at t0
  have t1 : DataW.trod enc Try.prog W 0 (fun _ => true) true n 22 (List.take (Try.prog.cellsOf 22) (List.drop 1 [c0, c1, c2, c3])) = xs[1]? := hfl 1 _ rfl
  obtain ⟨y1, e1⟩ := some_at_r (i := 1) hxl (by decide)
  rw [e1] at t1
  have t2 : DataW.trod enc Try.prog W 0 (fun _ => true) true n 3 (List.take (Try.prog.cellsOf 3) (List.drop 2 [c0, c1, c2, c3])) = xs[2]? := hfl 2 _ rfl
  obtain ⟨y2, e2⟩ := some_at_r (i := 2) hxl (by decide)
  rw [e2] at t2
  have t3 : DataW.trod enc Try.prog W 0 (fun _ => true) true n 23 (List.take (Try.prog.cellsOf 23) (List.drop 3 [c0, c1, c2, c3])) = xs[3]? := hfl 3 _ rfl
  obtain ⟨y3, e3⟩ := some_at_r (i := 3) hxl (by decide)
  rw [e3] at t3
  simp only [cells_r64, cells_rint, cells_r32, List.drop_succ_cons, List.drop_zero, List.take_succ_cons, List.take_zero] at t0 t1 t2 t3
  obtain ⟨z0, q0, _, w0⟩ := DataW.trod_int Try.underlying22 t0
  obtain rfl : c0 = .int .u64 z0 := by simpa using q0
  have b0 := bounds_u64 w0
  obtain ⟨i0, rfl⟩ := Int.eq_ofNat_of_zero_le b0.1
  obtain ⟨z1, q1, _, w1⟩ := DataW.trod_int Try.underlying22 t1
  obtain rfl : c1 = .int .u64 z1 := by simpa using q1
  have b1 := bounds_u64 w1
  obtain ⟨i1, rfl⟩ := Int.eq_ofNat_of_zero_le b1.1
  obtain ⟨z2, q2, _, w2⟩ := DataW.trod_int Try.underlying3 t2
  obtain rfl : c2 = .int .i64 z2 := by simpa using q2
  have b2 := bounds_i64 w2
  obtain ⟨z3, q3, _, w3⟩ := DataW.trod_int Try.underlying23 t3
  obtain rfl : c3 = .int .u32 z3 := by simpa using q3
  have b3 := bounds_u32 w3
  obtain ⟨i3, rfl⟩ := Int.eq_ofNat_of_zero_le b3.1
  exact ⟨⟨i0, i1, z2, i3⟩, ⟨by simp only; omega, by simp only; omega, by simp only; omega⟩, rfl⟩

theorem cells_check : Try.prog.cellsOf 29 = 3 := by kernel_rfl
theorem array_check {α : Type} {cs : Array α} (h : cs.size = 3) : ∃ c0 c1 c2, cs = #[c0, c1, c2] := by
  obtain ⟨l⟩ := cs
  have h' : l.length = 3 := h
  match l, h' with
  | [c0, c1, c2], _ => exact ⟨c0, c1, c2, rfl⟩

set_option maxRecDepth 100000 in
theorem open_check {base : Nat} {v : Value} {d : DataW H} {p : List MemPlace} (hv : Value.okWide Try.prog W .any base 29 v) (h : DataW.Trod enc Try.prog W 0 (fun _ => true) true 29 v d p) : ∃ s : Ck, s.Fit ∧ v = s.val := by
  obtain ⟨cs, rfl, hsz⟩ := okWide_struct Try.underlying29 hv
  obtain ⟨c0, c1, c2, rfl⟩ := array_check (hsz.trans cells_check)
  obtain ⟨fuel, ht⟩ := h
  obtain ⟨xs, n, rfl, hx, _, hxl, hfl⟩ := DataW.trod_struct Try.underlying29 ht
  have t0 : DataW.trod enc Try.prog W 0 (fun _ => true) true n 22 (List.take (Try.prog.cellsOf 22) (List.drop 0 [c0, c1, c2])) = xs[0]? := hfl 0 _ rfl
  obtain ⟨y0, e0⟩ := some_at_r (i := 0) hxl (by decide)
  rw [e0] at t0
  have t1 : DataW.trod enc Try.prog W 0 (fun _ => true) true n 22 (List.take (Try.prog.cellsOf 22) (List.drop 1 [c0, c1, c2])) = xs[1]? := hfl 1 _ rfl
  obtain ⟨y1, e1⟩ := some_at_r (i := 1) hxl (by decide)
  rw [e1] at t1
  have t2 : DataW.trod enc Try.prog W 0 (fun _ => true) true n 3 (List.take (Try.prog.cellsOf 3) (List.drop 2 [c0, c1, c2])) = xs[2]? := hfl 2 _ rfl
  obtain ⟨y2, e2⟩ := some_at_r (i := 2) hxl (by decide)
  rw [e2] at t2
  simp only [cells_r64, cells_rint, List.drop_succ_cons, List.drop_zero, List.take_succ_cons, List.take_zero] at t0 t1 t2
  obtain ⟨z0, q0, _, w0⟩ := DataW.trod_int Try.underlying22 t0
  obtain rfl : c0 = .int .u64 z0 := by simpa using q0
  have b0 := bounds_u64 w0
  obtain ⟨i0, rfl⟩ := Int.eq_ofNat_of_zero_le b0.1
  obtain ⟨z1, q1, _, w1⟩ := DataW.trod_int Try.underlying22 t1
  obtain rfl : c1 = .int .u64 z1 := by simpa using q1
  have b1 := bounds_u64 w1
  obtain ⟨i1, rfl⟩ := Int.eq_ofNat_of_zero_le b1.1
  obtain ⟨z2, q2, _, w2⟩ := DataW.trod_int Try.underlying3 t2
  obtain rfl : c2 = .int .i64 z2 := by simpa using q2
  have b2 := bounds_i64 w2
  exact ⟨⟨i0, i1, z2⟩, ⟨by simp only; omega, by simp only; omega⟩, rfl⟩

end
end Go.Proofs.Ytnjemjkjbeingaa