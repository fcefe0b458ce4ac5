/-
  The document's layout of blocks: Blocks, Parity. By an AI agent.
-/
import Derived.Test.YtheplbjlfkjncaaRefGeom
namespace Go.Proofs.Ytheplbjlfkjncaa
open Go.RowKit

/-- A geometry that was boxed. -/
theorem geo_box (m c t : Int) (w : World) : Hid (Chg [] w (w.alloc (.cells #[.int .i64 m, .int .i64 c, .int .i64 t] 23))) ∧
    Hid (∀ w', Chg [] (w.alloc (.cells #[.int .i64 m, .int .i64 c, .int .i64 t] 23)) w' → w'.cell? ⟨w.heap.size, 0, none⟩ = some (.int .i64 m) ∧ w'.cell? ⟨w.heap.size, 1, none⟩ = some (.int .i64 c) ∧ w'.cell? ⟨w.heap.size, 2, none⟩ = some (.int .i64 t)) := by
  have BX := Blk.made w [.int .i64 m, .int .i64 c, .int .i64 t] 23
  exact ⟨(Chg.refl _ _).alloc _, fun w' C => ⟨(C.cell (p := ⟨w.heap.size, 0, none⟩) BX.lt (by simp)).trans (BX.cell (j := 0) rfl), (C.cell (p := ⟨w.heap.size, 1, none⟩) BX.lt (by simp)).trans (BX.cell (j := 1) rfl), (C.cell (p := ⟨w.heap.size, 2, none⟩) BX.lt (by simp)).trans (BX.cell (j := 2) rfl)⟩⟩

theorem wrap_small {x : Nat} (h : x ≤ 1000000) : IntKind.i64.wrap (x : Int) = (x : Int) ∧ wrap64 (x : Int) = (x : Int) := by
  refine ⟨?_, ?_⟩
  · rw [IntKind.wrap_i64]; omega
  · unfold wrap64; omega

section
variable (g : Gm) (hg : g.Ok) (w : World)
include hg

set_option maxHeartbeats 1000000 in
set_option maxRecDepth 100000 in
theorem rgblocks_good : Calls Try.prog 21 #[.agg #[.int .i64 (g.n : Int), .int .i64 (g.k : Int), .int .i64 (g.s : Int)]] w (Says w (.int .i64 (g.blocks : Int))) := by
  obtain ⟨CA, K0⟩ := geo_box (g.n : Int) (g.k : Int) (g.s : Int) w
  have CK := Lib.hid (rgrows_good g hg (w.alloc (.cells #[.int .i64 (g.n : Int), .int .i64 (g.k : Int), .int .i64 (g.s : Int)] 23)))
  have hn := hg.n
  obtain ⟨D, hD⟩ : ∃ D, D = g.n - 1 := ⟨_, rfl⟩
  have e0 : (g.n : Int) - 1 = (D : Int) := by omega
  have e1 : (g.rows : Int) * (D : Int) = (g.blocks : Int) := by rw [← Int.natCast_mul, hD]; rfl
  obtain ⟨w1', w2'⟩ := wrap_small (x := g.blocks) (by have := Gm.le_blocks hg; omega)
  obtain ⟨w3', w4'⟩ := wrap_small (x := D) (by omega)
  generalize (g.blocks : Int) = B at *
  generalize (g.rows : Int) = R at *
  generalize (g.n : Int) = n at *
  generalize (g.k : Int) = k at *
  generalize (g.s : Int) = s at *
  generalize (D : Int) = D' at *
  clear hg hn hD
  go_enter Try.func21, Try.ntmps21
  go_wp2_with fail
  refine CK.out.mono ?_
  rintro e w1 ⟨rfl, C⟩
  have CW : Hid (Chg [] w w1) := CA.out.trans C.out
  obtain ⟨c0, c1, c2⟩ := K0.out w1 C.out
  clear CK CA C K0
  go_wp2_with fail
  go_ret
  exact ⟨rfl, CW⟩

set_option maxHeartbeats 1000000 in
set_option maxRecDepth 100000 in
theorem rgparity_out (r : Int) (hr : -9223372036854775808 ≤ r ∧ r ≤ 9223372036854775807) (ho : r < 0 ∨ (g.rows : Int) ≤ r) : Calls Try.prog 14 #[.agg #[.int .i64 (g.n : Int), .int .i64 (g.k : Int), .int .i64 (g.s : Int)], .int .i64 r] w (Says w (.tuple #[.int .i64 0, .int .i64 3])) := by
  obtain ⟨CA, K0⟩ := geo_box (g.n : Int) (g.k : Int) (g.s : Int) w
  have CK := Lib.hid (rgcheck_good _ _ _ (w.alloc (.cells #[.int .i64 (g.n : Int), .int .i64 (g.k : Int), .int .i64 (g.s : Int)] 23)) hg.valid)
  obtain ⟨hr1, hr2⟩ := hr
  have e1 : (g.s : Int) * (g.k : Int) = (g.rows : Int) := by unfold Gm.rows; rw [Int.natCast_mul]
  obtain ⟨w1', w2'⟩ := wrap_small (x := g.rows) (by have := Gm.le_rows hg; omega)
  generalize (g.rows : Int) = R at *
  generalize (g.n : Int) = n at *
  generalize (g.k : Int) = k at *
  generalize (g.s : Int) = s at *
  clear hg
  have hcase : r < 0 ∨ (¬ r < 0 ∧ R ≤ r) := by omega
  clear ho
  rcases hcase with h1 | ⟨h1, h2⟩
  all_goals
    go_enter Try.func14, Try.ntmps14
    go_wp2_with fail
    refine CK.out.mono ?_
    rintro e w1 ⟨rfl, C⟩
    have CW : Hid (Chg [] w w1) := CA.out.trans C.out
    obtain ⟨c0, c1, c2⟩ := K0.out w1 C.out
    clear CK CA C K0
    go_wp2_with fail
    go_ret2
    exact ⟨rfl, CW⟩

set_option maxHeartbeats 1000000 in
set_option maxRecDepth 100000 in
theorem rgparity_in (r : Nat) (hr : r < g.rows) : Calls Try.prog 14 #[.agg #[.int .i64 (g.n : Int), .int .i64 (g.k : Int), .int .i64 (g.s : Int)], .int .i64 (r : Int)] w (Says w (.tuple #[.int .i64 (g.par (r / g.k) : Int), .int .i64 0])) := by
  obtain ⟨CA, K0⟩ := geo_box (g.n : Int) (g.k : Int) (g.s : Int) w
  have CK := Lib.hid (rgcheck_good _ _ _ (w.alloc (.cells #[.int .i64 (g.n : Int), .int .i64 (g.k : Int), .int .i64 (g.s : Int)] 23)) hg.valid)
  have e1 : (g.s : Int) * (g.k : Int) = (g.rows : Int) := by unfold Gm.rows; rw [Int.natCast_mul]
  have hlr := Gm.le_rows hg
  have hn := hg.n
  have hk := hg.k
  obtain ⟨w1', w2'⟩ := wrap_small (x := g.rows) (by omega)
  obtain ⟨Q, hQ⟩ : ∃ Q, Q = r / g.k := ⟨_, rfl⟩
  obtain ⟨X, hX⟩ : ∃ X, X = Q % g.n := ⟨_, rfl⟩
  obtain ⟨P, hP⟩ : ∃ P, P = g.par Q := ⟨_, rfl⟩
  have hXl : X < g.n := by rw [hX]; exact Nat.mod_lt _ (by omega)
  have hQl : Q ≤ r := by rw [hQ]; exact Nat.div_le_self _ _
  have hPl : P < g.n := by rw [hP]; exact Gm.par_lt (by omega) _
  have b1 : X ≤ 1000000 := Nat.le_trans (Nat.le_of_lt hXl) (by omega)
  have b2 : Q ≤ 1000000 := Nat.le_trans hQl (by omega)
  have b3 : P ≤ 1000000 := Nat.le_trans (Nat.le_of_lt hPl) (by omega)
  have b4 : g.n - 1 ≤ 1000000 := by omega
  have n0 : ¬ (g.n : Int) = 0 := by omega
  have k0 : ¬ (g.k : Int) = 0 := by omega
  have r0 : ¬ (r : Int) < 0 := by omega
  have r1 : ¬ (g.rows : Int) ≤ (r : Int) := by omega
  have r2 : (r : Int) ≤ 4096 := by omega
  have r3 : (0 : Int) ≤ r := Int.natCast_nonneg _
  have d3 : (g.n : Int) - 1 - (X : Int) = (P : Int) := by rw [hP]; unfold Gm.par; rw [← hX]; omega
  obtain ⟨D, hD⟩ : ∃ D, D = g.n - 1 := ⟨_, rfl⟩
  have d0 : (g.n : Int) - 1 = (D : Int) := by omega
  rw [d0] at d3
  rw [← hD] at b4
  clear hlr hn hk
  have d1 : Int.tdiv (r : Int) (g.k : Int) = (Q : Int) := by rw [hQ]; rfl
  have d2 : Int.tmod (Q : Int) (g.n : Int) = (X : Int) := by rw [hX]; rfl
  obtain ⟨w3', w4'⟩ := wrap_small b4
  obtain ⟨w5', w6'⟩ := wrap_small b2
  obtain ⟨w7', w8'⟩ := wrap_small b3
  obtain ⟨w9', wa'⟩ := wrap_small b1
  rw [← hQ, ← hP]
  clear hg hr hQ hX hP hXl hQl hD hPl b1 b2 b3 b4
  generalize (g.rows : Int) = R at *
  generalize (g.n : Int) = n at *
  generalize (g.k : Int) = k at *
  generalize (g.s : Int) = s at *
  generalize (r : Int) = r' at *
  generalize (Q : Int) = Q' at *
  generalize (X : Int) = X' at *
  generalize (P : Int) = P' at *
  generalize (D : Int) = D' at *
  go_enter Try.func14, Try.ntmps14
  go_wp2_with fail
  refine CK.out.mono ?_
  rintro e w1 ⟨rfl, C⟩
  have CW : Hid (Chg [] w w1) := CA.out.trans C.out
  obtain ⟨c0, c1, c2⟩ := K0.out w1 C.out
  clear CK CA C K0
  go_wp2_with fail
  go_quiet (fail)
  go_wp2_with fail
  go_ret2
  exact ⟨rfl, CW.out.drewN _⟩

end
end Go.Proofs.Ytheplbjlfkjncaa
