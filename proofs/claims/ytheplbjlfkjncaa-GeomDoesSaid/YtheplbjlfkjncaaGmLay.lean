/-
  The program's layout of blocks: its numbers. By an AI agent.
-/
import Derived.Test.YtheplbjlfkjncaaGmChk
import Derived.Deep.RegionHeld3
namespace Go.Proofs.Ytheplbjlfkjncaa
open Go.RowKit

/-- A layout that was boxed. -/
theorem lay_box (m c t : Int) (w : World) : Hid (Chg [] w (w.alloc (.cells #[.int .i64 m, .int .i64 c, .int .i64 t] 72))) ∧
    Hid (∀ w', Chg [] (w.alloc (.cells #[.int .i64 m, .int .i64 c, .int .i64 t] 72)) w' → w'.cell? ⟨w.heap.size, 0, none⟩ = some (.int .i64 m) ∧ w'.cell? ⟨w.heap.size, 1, none⟩ = some (.int .i64 c) ∧ w'.cell? ⟨w.heap.size, 2, none⟩ = some (.int .i64 t)) := by
  have BX := Blk.made w [.int .i64 m, .int .i64 c, .int .i64 t] 72
  exact ⟨(Chg.refl _ _).alloc _, fun w' C => ⟨(C.cell (p := ⟨w.heap.size, 0, none⟩) BX.lt (by simp)).trans (BX.cell (j := 0) rfl), (C.cell (p := ⟨w.heap.size, 1, none⟩) BX.lt (by simp)).trans (BX.cell (j := 1) rfl), (C.cell (p := ⟨w.heap.size, 2, none⟩) BX.lt (by simp)).trans (BX.cell (j := 2) rfl)⟩⟩

theorem wrap_int {z : Int} (h1 : -1000000 ≤ z) (h2 : z ≤ 1000000) : IntKind.i64.wrap z = z ∧ wrap64 z = z := by
  refine ⟨?_, ?_⟩
  · rw [IntKind.wrap_i64]; omega
  · unfold wrap64; omega

theorem Gm.blocks_int (g : Gm) : (g.s : Int) * (g.each : Int) = (g.blocks : Int) := by
  rw [Gm.blocks_each, Int.natCast_mul]

section
variable (g : Gm) (hg : g.Ok) (w : World)
include hg

set_option maxHeartbeats 1000000 in
set_option maxRecDepth 100000 in
theorem lrows : Calls Try.prog 34 #[.agg #[.int .i64 (g.n : Int), .int .i64 (g.k : Int), .int .i64 (g.s : Int)]] w (Says w (.int .i64 (g.rows : Int))) := by
  have e1 : (g.s : Int) * (g.k : Int) = (g.rows : Int) := by unfold Gm.rows; rw [Int.natCast_mul]
  obtain ⟨w1', w2'⟩ := wrap_small (x := g.rows) (by have := Gm.le_rows hg; omega)
  generalize (g.rows : Int) = R at *
  generalize (g.n : Int) = n at *
  generalize (g.k : Int) = k at *
  generalize (g.s : Int) = s at *
  clear hg
  go_enter Try.func34, Try.ntmps34
  go_wp2_with fail
  go_ret
  exact ⟨rfl, (Chg.refl _ w).alloc _⟩

set_option maxHeartbeats 1000000 in
set_option maxRecDepth 100000 in
theorem lrow : Calls Try.prog 49 #[.agg #[.int .i64 (g.n : Int), .int .i64 (g.k : Int), .int .i64 (g.s : Int)]] w (Says w (.int .i64 ((g.n - 1 : Nat) : Int))) := by
  have hn := hg.n
  obtain ⟨D, hD⟩ : ∃ D, D = g.n - 1 := ⟨_, rfl⟩
  have e1 : (g.n : Int) - 1 = (D : Int) := by omega
  obtain ⟨w1', w2'⟩ := wrap_small (x := D) (by omega)
  rw [← hD]
  generalize (D : Int) = D' at *
  generalize (g.n : Int) = n at *
  generalize (g.k : Int) = k at *
  generalize (g.s : Int) = s at *
  clear hg hn hD
  go_enter Try.func49, Try.ntmps49
  go_wp2_with fail
  go_ret
  exact ⟨rfl, (Chg.refl _ w).alloc _⟩

set_option maxHeartbeats 1000000 in
set_option maxRecDepth 100000 in
theorem leach : Calls Try.prog 47 #[.agg #[.int .i64 (g.n : Int), .int .i64 (g.k : Int), .int .i64 (g.s : Int)]] w (Says w (.int .i64 (g.each : Int))) := by
  obtain ⟨CA, K0⟩ := lay_box (g.n : Int) (g.k : Int) (g.s : Int) w
  obtain ⟨W, hW⟩ : ∃ W, W = w.alloc (.cells #[.int .i64 (g.n : Int), .int .i64 (g.k : Int), .int .i64 (g.s : Int)] 72) := ⟨_, rfl⟩
  rw [← hW] at K0 CA
  have LR := Lib.hid (lrow g hg W.drew)
  obtain ⟨D, hD⟩ : ∃ D, D = g.n - 1 := ⟨_, rfl⟩
  have e1 : (D : Int) * (g.k : Int) = (g.each : Int) := by unfold Gm.each; rw [Int.natCast_mul, hD]
  obtain ⟨w1', w2'⟩ := wrap_small (x := g.each) (by have := Gm.le_each hg; omega)
  rw [← hD] at LR
  generalize (g.each : Int) = E at *
  generalize (D : Int) = D' at *
  generalize (g.n : Int) = n at *
  generalize (g.k : Int) = k at *
  generalize (g.s : Int) = s at *
  clear hg hD
  obtain ⟨c0, c1, c2⟩ := K0.out W (Chg.refl _ _)
  go_enter Try.func47, Try.ntmps47
  go_wp2_with fail
  rw [← hW]
  clear hW
  go_region_held3 (fun w' : World => w'.cell? ⟨w.heap.size, 0, none⟩ = some (.int .i64 n) ∧ w'.cell? ⟨w.heap.size, 1, none⟩ = some (.int .i64 k) ∧ w'.cell? ⟨w.heap.size, 2, none⟩ = some (.int .i64 s)) (first | exact ⟨c0, c1, c2⟩ | exact K0.out _ C1.out) (first
    | (go_at_call 49; refine LR.out.mono ?_; rintro e w1 ⟨rfl, C⟩; have C1 : Hid (Chg [] W w1) := ((Chg.refl _ _).drewN 1).trans C.out))
  go_wp2_with fail
  go_ret
  exact ⟨rfl, CA.out.trans C1.out⟩

set_option maxHeartbeats 1000000 in
set_option maxRecDepth 100000 in
theorem lblocks : Calls Try.prog 28 #[.agg #[.int .i64 (g.n : Int), .int .i64 (g.k : Int), .int .i64 (g.s : Int)]] w (Says w (.int .i64 (g.blocks : Int))) := by
  obtain ⟨CA, K0⟩ := lay_box (g.n : Int) (g.k : Int) (g.s : Int) w
  obtain ⟨W, hW⟩ : ∃ W, W = w.alloc (.cells #[.int .i64 (g.n : Int), .int .i64 (g.k : Int), .int .i64 (g.s : Int)] 72) := ⟨_, rfl⟩
  rw [← hW] at K0 CA
  have LR := Lib.hid (leach g hg W.drew)
  have e1 := Gm.blocks_int g
  obtain ⟨w1', w2'⟩ := wrap_small (x := g.blocks) (by have := Gm.le_blocks hg; omega)
  generalize (g.blocks : Int) = B at *
  generalize (g.each : Int) = E at *
  generalize (g.n : Int) = n at *
  generalize (g.k : Int) = k at *
  generalize (g.s : Int) = s at *
  clear hg
  obtain ⟨c0, c1, c2⟩ := K0.out W (Chg.refl _ _)
  go_enter Try.func28, Try.ntmps28
  go_wp2_with fail
  rw [← hW]
  clear hW
  go_region_held3 (fun w' : World => w'.cell? ⟨w.heap.size, 0, none⟩ = some (.int .i64 n) ∧ w'.cell? ⟨w.heap.size, 1, none⟩ = some (.int .i64 k) ∧ w'.cell? ⟨w.heap.size, 2, none⟩ = some (.int .i64 s)) (first | exact ⟨c0, c1, c2⟩ | exact K0.out _ C1.out) (first
    | (go_at_call 47; refine LR.out.mono ?_; rintro e w1 ⟨rfl, C⟩; have C1 : Hid (Chg [] W w1) := ((Chg.refl _ _).drewN 1).trans C.out))
  go_wp2_with fail
  go_ret
  exact ⟨rfl, CA.out.trans C1.out⟩

set_option maxHeartbeats 1000000 in
set_option maxRecDepth 100000 in
theorem lpar (r : Nat) (hr : r < g.rows) : Calls Try.prog 31 #[.agg #[.int .i64 (g.n : Int), .int .i64 (g.k : Int), .int .i64 (g.s : Int)], .int .i64 (r : Int)] w (Says w (.int .i64 (g.par (r / g.k) : Int))) := by
  have hlr := Gm.le_rows hg
  have hn := hg.n
  have hk := hg.k
  obtain ⟨Q, hQ⟩ : ∃ Q, Q = r / g.k := ⟨_, rfl⟩
  obtain ⟨X, hX⟩ : ∃ X, X = Q % g.n := ⟨_, rfl⟩
  obtain ⟨P, hP⟩ : ∃ P, P = g.par Q := ⟨_, rfl⟩
  have hXl : X < g.n := by rw [hX]; exact Nat.mod_lt _ (by omega)
  have hQl : Q ≤ r := by rw [hQ]; exact Nat.div_le_self _ _
  have hPl : P < g.n := by rw [hP]; exact Gm.par_lt (by omega) _
  have b1 : X ≤ 1000000 := Nat.le_trans (Nat.le_of_lt hXl) (by omega)
  have b2 : Q ≤ 1000000 := Nat.le_trans hQl (by omega)
  have b3 : P ≤ 1000000 := Nat.le_trans (Nat.le_of_lt hPl) (by omega)
  have n0 : ¬ (g.n : Int) = 0 := by omega
  have k0 : ¬ (g.k : Int) = 0 := by omega
  have r3 : (0 : Int) ≤ r := Int.natCast_nonneg _
  have d3 : (g.n : Int) - 1 - (X : Int) = (P : Int) := by rw [hP]; unfold Gm.par; rw [← hX]; omega
  obtain ⟨D, hD⟩ : ∃ D, D = g.n - 1 := ⟨_, rfl⟩
  have d0 : (g.n : Int) - 1 = (D : Int) := by omega
  have b4 : D ≤ 1000000 := by omega
  rw [d0] at d3
  clear hlr hn hk
  have d1 : Int.tdiv (r : Int) (g.k : Int) = (Q : Int) := by rw [hQ]; rfl
  have d2 : Int.tmod (Q : Int) (g.n : Int) = (X : Int) := by rw [hX]; rfl
  obtain ⟨w3', w4'⟩ := wrap_small b4
  obtain ⟨w5', w6'⟩ := wrap_small b2
  obtain ⟨w7', w8'⟩ := wrap_small b3
  obtain ⟨w9', wa'⟩ := wrap_small b1
  rw [← hQ, ← hP]
  clear hg hr hQ hX hP hXl hQl hD hPl b1 b2 b3 b4
  generalize (g.n : Int) = n at *
  generalize (g.k : Int) = k at *
  generalize (g.s : Int) = s at *
  generalize (r : Int) = r' at *
  generalize (Q : Int) = Q' at *
  generalize (X : Int) = X' at *
  generalize (P : Int) = P' at *
  generalize (D : Int) = D' at *
  go_enter Try.func31, Try.ntmps31
  go_wp2_with fail
  go_quiet (fail)
  go_wp2_with fail
  go_ret
  exact ⟨rfl, ((Chg.refl _ w).alloc _).drewN _⟩

set_option maxHeartbeats 1000000 in
set_option maxRecDepth 100000 in
theorem lmem (p d : Nat) (hp : p < g.n) (hd : d < g.n) : Calls Try.prog 48 #[.agg #[.int .i64 (g.n : Int), .int .i64 (g.k : Int), .int .i64 (g.s : Int)], .int .i64 (p : Int), .int .i64 (d : Int)] w (Says w (.int .i64 (g.mem p d : Int))) := by
  have hn := hg.n
  obtain ⟨A, hA⟩ : ∃ A, A = p + 1 := ⟨_, rfl⟩
  obtain ⟨B, hB⟩ : ∃ B, B = A + d := ⟨_, rfl⟩
  obtain ⟨M, hM⟩ : ∃ M, M = g.mem p d := ⟨_, rfl⟩
  have hMl : M < g.n := by rw [hM]; exact Gm.mem_lt (by omega) _ _
  have e1 : (p : Int) + 1 = (A : Int) := by omega
  have e2 : (A : Int) + (d : Int) = (B : Int) := by omega
  have b1 : A ≤ 1000000 := by omega
  have b2 : B ≤ 1000000 := by omega
  have b3 : M ≤ 1000000 := by omega
  have n0 : ¬ (g.n : Int) = 0 := by omega
  have e3 : Int.tmod (B : Int) (g.n : Int) = (M : Int) := by rw [hM, hB, hA]; rfl
  obtain ⟨w1', w2'⟩ := wrap_small b1
  obtain ⟨w3', w4'⟩ := wrap_small b2
  obtain ⟨w5', w6'⟩ := wrap_small b3
  rw [← hM]
  clear hg hn hA hB hM hMl b1 b2 b3 hp hd
  generalize (g.n : Int) = n at *
  generalize (g.k : Int) = k at *
  generalize (g.s : Int) = s at *
  generalize (p : Int) = p' at *
  generalize (d : Int) = d' at *
  generalize (A : Int) = A' at *
  generalize (B : Int) = B' at *
  generalize (M : Int) = M' at *
  go_enter Try.func48, Try.ntmps48
  go_wp2_with fail
  go_ret
  exact ⟨rfl, (Chg.refl _ w).alloc _⟩

set_option maxHeartbeats 1000000 in
set_option maxRecDepth 100000 in
theorem lnum (p m : Nat) (hp : p < g.n) (hm : m < g.n) : Calls Try.prog 50 #[.agg #[.int .i64 (g.n : Int), .int .i64 (g.k : Int), .int .i64 (g.s : Int)], .int .i64 (p : Int), .int .i64 (m : Int)] w (Says w (.int .i64 (g.far p m : Int))) := by
  have hn := hg.n
  obtain ⟨A, hA⟩ : ∃ A : Int, A = (m : Int) - p := ⟨_, rfl⟩
  obtain ⟨B, hB⟩ : ∃ B : Int, B = A - 1 := ⟨_, rfl⟩
  obtain ⟨Y, hY⟩ : ∃ Y : Nat, Y = m + g.n - p - 1 := ⟨_, rfl⟩
  obtain ⟨M, hM⟩ : ∃ M, M = g.far p m := ⟨_, rfl⟩
  have hMl : M < g.n := by rw [hM]; exact Gm.far_lt (by omega) _ _
  have e1 : (m : Int) - (p : Int) = A := hA.symm
  have e2 : A - 1 = B := hB.symm
  have e4 : B + (g.n : Int) = (Y : Int) := by omega
  have b1 : -1000000 ≤ A ∧ A ≤ 1000000 := by omega
  have b2 : -1000000 ≤ B ∧ B ≤ 1000000 := by omega
  have b3 : M ≤ 1000000 := by omega
  have b4 : Y ≤ 1000000 := by omega
  have n0 : ¬ (g.n : Int) = 0 := by omega
  have e5 : Y % g.n = M := by
    rw [hM]
    unfold Gm.far
    rw [show m + 2 * g.n - p - 1 = Y + g.n by omega, Nat.add_mod_right]
  have e3 : Int.tmod (Y : Int) (g.n : Int) = (M : Int) := by rw [← e5]; rfl
  obtain ⟨w1', w2'⟩ := wrap_int b1.1 b1.2
  obtain ⟨w3', w4'⟩ := wrap_int b2.1 b2.2
  obtain ⟨w5', w6'⟩ := wrap_small b3
  obtain ⟨w7', w8'⟩ := wrap_small b4
  rw [← hM]
  clear hg hn hA hB hY hM hMl b1 b2 b3 b4 hp hm e5
  generalize (g.n : Int) = n at *
  generalize (g.k : Int) = k at *
  generalize (g.s : Int) = s at *
  generalize (p : Int) = p' at *
  generalize (m : Int) = m' at *
  generalize (Y : Int) = Y' at *
  generalize (M : Int) = M' at *
  go_enter Try.func50, Try.ntmps50
  go_wp2_with fail
  go_ret
  exact ⟨rfl, (Chg.refl _ w).alloc _⟩

end

end Go.Proofs.Ytheplbjlfkjncaa
