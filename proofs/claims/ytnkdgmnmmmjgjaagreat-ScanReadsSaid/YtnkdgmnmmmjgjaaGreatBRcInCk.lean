/-
  A checkpoint that comes in by value. By an AI agent. Cut out of RcIn.
-/
import Derived.Test.YtnkdgmnmmmjgjaaGreatBGIn
import Derived.Test.YtnkdgmnmmmjgjaaGreatBCrcMath
namespace Go.Proofs.YtnkdgmnmmmjgjaaGreat
open Go.RowKit

structure Ck.Fit (h : Ck) : Prop where
  ep : h.ep < 18446744073709551616
  sq : h.sq < 18446744073709551616

section
open Go.ChangeShapes Go.WideShapes Go.Deep Go.ChangeAt
variable {H : Type} {enc : TypeId × Value → H} {W : World}

theorem cells_r64 : Tryz.prog.cellsOf 22 = 1 := by kernel_rfl
theorem cells_r32 : Tryz.prog.cellsOf 74 = 1 := by kernel_rfl
theorem cells_rint : Tryz.prog.cellsOf 3 = 1 := by kernel_rfl
theorem cells_rbool : Tryz.prog.cellsOf 4 = 1 := by kernel_rfl
theorem some_at_r {α : Type} {l : List α} {n i : Nat} (h : l.length = n) (hi : i < n) : ∃ y, l[i]? = some y := ⟨_, List.getElem?_eq_getElem (by omega)⟩

theorem cells_check : Tryz.prog.cellsOf 57 = 3 := by kernel_rfl
theorem array_check {α : Type} {cs : Array α} (h : cs.size = 3) : ∃ c0 c1 c2, cs = #[c0, c1, c2] := by
  obtain ⟨l⟩ := cs
  have h' : l.length = 3 := h
  match l, h' with
  | [c0, c1, c2], _ => exact ⟨c0, c1, c2, rfl⟩

set_option maxRecDepth 100000 in
theorem open_check {base : Nat} {v : Value} {d : DataW H} {p : List MemPlace} (hv : Value.okWide Tryz.prog W .any base 57 v) (h : DataW.Trod enc Tryz.prog W 0 (fun _ => true) true 57 v d p) : ∃ s : Ck, s.Fit ∧ v = s.val := by
  obtain ⟨cs, rfl, hsz⟩ := okWide_struct Tryz.underlying57 hv
  obtain ⟨c0, c1, c2, rfl⟩ := array_check (hsz.trans cells_check)
  obtain ⟨fuel, ht⟩ := h
  obtain ⟨xs, n, rfl, hx, _, hxl, hfl⟩ := DataW.trod_struct Tryz.underlying57 ht
  have t0 : DataW.trod enc Tryz.prog W 0 (fun _ => true) true n 22 (List.take (Tryz.prog.cellsOf 22) (List.drop 0 [c0, c1, c2])) = xs[0]? := hfl 0 _ rfl
  obtain ⟨y0, e0⟩ := some_at_r (i := 0) hxl (by decide)
  rw [e0] at t0
  have t1 : DataW.trod enc Tryz.prog W 0 (fun _ => true) true n 22 (List.take (Tryz.prog.cellsOf 22) (List.drop 1 [c0, c1, c2])) = xs[1]? := hfl 1 _ rfl
  obtain ⟨y1, e1⟩ := some_at_r (i := 1) hxl (by decide)
  rw [e1] at t1
  have t2 : DataW.trod enc Tryz.prog W 0 (fun _ => true) true n 3 (List.take (Tryz.prog.cellsOf 3) (List.drop 2 [c0, c1, c2])) = xs[2]? := hfl 2 _ rfl
  obtain ⟨y2, e2⟩ := some_at_r (i := 2) hxl (by decide)
  rw [e2] at t2
  simp only [cells_r64, cells_rint, List.drop_succ_cons, List.drop_zero, List.take_succ_cons, List.take_zero] at t0 t1 t2
  obtain ⟨z0, q0, _, w0⟩ := DataW.trod_int Tryz.underlying22 t0
  obtain rfl : c0 = .int .u64 z0 := by simpa using q0
  have b0 := bounds_u64 w0
  obtain ⟨i0, rfl⟩ := Int.eq_ofNat_of_zero_le b0.1
  obtain ⟨z1, q1, _, w1⟩ := DataW.trod_int Tryz.underlying22 t1
  obtain rfl : c1 = .int .u64 z1 := by simpa using q1
  have b1 := bounds_u64 w1
  obtain ⟨i1, rfl⟩ := Int.eq_ofNat_of_zero_le b1.1
  obtain ⟨z2, q2, _, w2⟩ := DataW.trod_int Tryz.underlying3 t2
  obtain rfl : c2 = .int .i64 z2 := by simpa using q2
  have b2 := bounds_i64 w2
  exact ⟨⟨i0, i1, z2⟩, ⟨by simp only; omega, by simp only; omega⟩, rfl⟩

end
end Go.Proofs.YtnkdgmnmmmjgjaaGreat
