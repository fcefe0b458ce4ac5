/-
  The document's layout of blocks, where it is not valid or out of range. By an AI agent. Printed by gen_rgeom5.py.
-/
import Derived.Test.YtheplbjlfkjncaaRefGeom3
import Derived.Test.YtheplbjlfkjncaaGmFun
namespace Go.Proofs.Ytheplbjlfkjncaa
open Go.RowKit

set_option maxHeartbeats 2000000 in
set_option maxRecDepth 100000 in
theorem rgparity_bad (m c t r : Int) (w : World) (h : ¬ Gm.valid m c t) : Calls Try.prog 14 #[.agg #[.int .i64 m, .int .i64 c, .int .i64 t], .int .i64 r] w (Says w (.tuple #[.int .i64 0, .int .i64 60])) := by
  have CA := (geo_box m c t w).1
  have CK : Hid (∀ w', Calls Try.prog 17 #[.agg #[.int .i64 m, .int .i64 c, .int .i64 t]] w' (Says w' (.int .i64 60))) := fun w' => rgcheck_bad m c t w' h
  clear h
  go_enter Try.func14, Try.ntmps14
  go_wp2_with fail
  refine (CK.out _).mono ?_
  rintro e w1 ⟨rfl, C1⟩
  have FW := Lib.hid (CA.out.trans C1.out)
  clear CK C1 CA
  go_wp2_with fail
  go_ret2
  exact ⟨rfl, FW.out⟩

set_option maxHeartbeats 2000000 in
set_option maxRecDepth 100000 in
theorem rgmembers_none (m c t r er : Int) (w : World) (h : ∀ w', Calls Try.prog 14 #[.agg #[.int .i64 m, .int .i64 c, .int .i64 t], .int .i64 r] w' (Says w' (.tuple #[.int .i64 0, .int .i64 er]))) (he : ¬ er = 0) : Calls Try.prog 15 #[.agg #[.int .i64 m, .int .i64 c, .int .i64 t], .int .i64 r] w (Says w (.tuple #[.slice none 0 0, .int .i64 er])) := by
  have CA := (geo_box m c t w).1
  have CK := Lib.hid h
  clear h
  go_enter Try.func15, Try.ntmps15
  go_wp2_with fail
  refine (CK.out _).mono ?_
  rintro e w1 ⟨rfl, C1⟩
  have FW := Lib.hid (CA.out.trans C1.out)
  clear CK C1 CA
  go_wp2_with fail
  go_ret2
  exact ⟨rfl, FW.out⟩

set_option maxHeartbeats 2000000 in
set_option maxRecDepth 100000 in
theorem rgat_bad (m c t a r : Int) (w : World) (h : ¬ Gm.valid m c t) : Calls Try.prog 16 #[.agg #[.int .i64 m, .int .i64 c, .int .i64 t], .int .i64 a, .int .i64 r] w (Says w (.tuple #[.int .i64 0, .bool false, .int .i64 60])) := by
  have CA := (geo_box m c t w).1
  have CK : Hid (∀ w', Calls Try.prog 17 #[.agg #[.int .i64 m, .int .i64 c, .int .i64 t]] w' (Says w' (.int .i64 60))) := fun w' => rgcheck_bad m c t w' h
  clear h
  go_enter Try.func16, Try.ntmps16
  go_wp2_with fail
  refine (CK.out _).mono ?_
  rintro e w1 ⟨rfl, C1⟩
  have FW := Lib.hid (CA.out.trans C1.out)
  clear CK C1 CA
  go_wp2_with fail
  go_ret3
  exact ⟨rfl, FW.out⟩

set_option maxHeartbeats 2000000 in
set_option maxRecDepth 100000 in
theorem rgat_member (g : Gm) (hg : g.Ok) (w : World) (a r : Int) (h : a < 0 ∨ (g.n : Int) ≤ a) : Calls Try.prog 16 #[.agg #[.int .i64 (g.n : Int), .int .i64 (g.k : Int), .int .i64 (g.s : Int)], .int .i64 a, .int .i64 r] w (Says w (.tuple #[.int .i64 0, .bool false, .int .i64 3])) := by
  obtain ⟨CA, K0⟩ := geo_box (g.n : Int) (g.k : Int) (g.s : Int) w
  have CK : Hid (∀ w', Calls Try.prog 17 #[.agg #[.int .i64 (g.n : Int), .int .i64 (g.k : Int), .int .i64 (g.s : Int)]] w' (Says w' (.int .i64 0))) := fun w' => rgcheck_good _ _ _ w' hg.valid
  have hc : a < 0 ∨ (¬ a < 0 ∧ (g.n : Int) ≤ a) := by omega
  clear h
  generalize (g.n : Int) = n at *
  generalize (g.k : Int) = k at *
  generalize (g.s : Int) = s at *
  clear hg
  rcases hc with h1 | ⟨h1, h2⟩
  all_goals
    go_enter Try.func16, Try.ntmps16
    go_wp2_with fail
    refine (CK.out _).mono ?_
    rintro e w1 ⟨rfl, C1⟩
    obtain ⟨c0, c1, c2⟩ := K0.out w1 C1.out
    have FW := Lib.hid (CA.out.trans C1.out)
    clear CK C1 CA K0
    go_wp2_with fail
    go_ret3
    exact ⟨rfl, FW.out⟩

set_option maxHeartbeats 2000000 in
set_option maxRecDepth 100000 in
theorem rgat_row (g : Gm) (hg : g.Ok) (w : World) (a r : Int) (ha : ¬ (a < 0 ∨ (g.n : Int) ≤ a)) (hr : -9223372036854775808 ≤ r ∧ r ≤ 9223372036854775807) (h : r < 0 ∨ (g.rows : Int) ≤ r) : Calls Try.prog 16 #[.agg #[.int .i64 (g.n : Int), .int .i64 (g.k : Int), .int .i64 (g.s : Int)], .int .i64 a, .int .i64 r] w (Says w (.tuple #[.int .i64 0, .bool false, .int .i64 3])) := by
  have PR : Hid (∀ w', Calls Try.prog 14 #[.agg #[.int .i64 (g.n : Int), .int .i64 (g.k : Int), .int .i64 (g.s : Int)], .int .i64 r] w' (Says w' (.tuple #[.int .i64 0, .int .i64 3]))) := fun w' => rgparity_out g hg w' r hr h
  have h1 : ¬ a < 0 := by omega
  have h2 : ¬ (g.n : Int) ≤ a := by omega
  obtain ⟨CA, K0⟩ := geo_box (g.n : Int) (g.k : Int) (g.s : Int) w
  have CK : Hid (∀ w', Calls Try.prog 17 #[.agg #[.int .i64 (g.n : Int), .int .i64 (g.k : Int), .int .i64 (g.s : Int)]] w' (Says w' (.int .i64 0))) := fun w' => rgcheck_good _ _ _ w' hg.valid
  clear ha hr h 
  generalize (g.n : Int) = n at *
  generalize (g.k : Int) = k at *
  generalize (g.s : Int) = s at *
  clear hg
  go_enter Try.func16, Try.ntmps16
  go_wp2_with fail
  refine (CK.out _).mono ?_
  rintro e w1 ⟨rfl, C1⟩
  obtain ⟨c0, c1, c2⟩ := K0.out w1 C1.out
  have FW := Lib.hid (CA.out.trans C1.out)
  clear CK C1 CA K0
  go_wp2_with fail
  refine (PR.out _).mono ?_
  rintro e w2 ⟨rfl, C2⟩
  replace FW := Lib.hid (FW.out.trans C2.out)
  clear PR C2 c0 c1 c2
  go_wp2_with fail
  go_ret3
  exact ⟨rfl, FW.out⟩

set_option maxHeartbeats 2000000 in
set_option maxRecDepth 100000 in
theorem rgat_par (g : Gm) (hg : g.Ok) (w : World) (r : Nat) (hr : r < g.rows) : Calls Try.prog 16 #[.agg #[.int .i64 (g.n : Int), .int .i64 (g.k : Int), .int .i64 (g.s : Int)], .int .i64 (g.par (r / g.k) : Int), .int .i64 (r : Int)] w (Says w (.tuple #[.int .i64 0, .bool true, .int .i64 0])) := by
  have hn := hg.n
  have hm : g.par (r / g.k) < g.n := Gm.par_lt (by omega) _
  have PR : Hid (∀ w', Calls Try.prog 14 #[.agg #[.int .i64 (g.n : Int), .int .i64 (g.k : Int), .int .i64 (g.s : Int)], .int .i64 (r : Int)] w' (Says w' (.tuple #[.int .i64 (g.par (r / g.k) : Int), .int .i64 0]))) := fun w' => rgparity_in g hg w' r hr
  have h1 : ¬ (g.par (r / g.k) : Int) < 0 := by omega
  have h2 : ¬ (g.n : Int) ≤ (g.par (r / g.k) : Int) := by omega
  generalize (g.par (r / g.k) : Int) = a at *
  generalize (r : Int) = r' at *
  obtain ⟨CA, K0⟩ := geo_box (g.n : Int) (g.k : Int) (g.s : Int) w
  have CK : Hid (∀ w', Calls Try.prog 17 #[.agg #[.int .i64 (g.n : Int), .int .i64 (g.k : Int), .int .i64 (g.s : Int)]] w' (Says w' (.int .i64 0))) := fun w' => rgcheck_good _ _ _ w' hg.valid
  clear hn hm hr 
  generalize (g.n : Int) = n at *
  generalize (g.k : Int) = k at *
  generalize (g.s : Int) = s at *
  clear hg
  go_enter Try.func16, Try.ntmps16
  go_wp2_with fail
  refine (CK.out _).mono ?_
  rintro e w1 ⟨rfl, C1⟩
  obtain ⟨c0, c1, c2⟩ := K0.out w1 C1.out
  have FW := Lib.hid (CA.out.trans C1.out)
  clear CK C1 CA K0
  go_wp2_with fail
  refine (PR.out _).mono ?_
  rintro e w2 ⟨rfl, C2⟩
  replace FW := Lib.hid (FW.out.trans C2.out)
  clear PR C2 c0 c1 c2
  go_wp2_with fail
  go_ret3
  exact ⟨rfl, FW.out⟩

set_option maxHeartbeats 2000000 in
set_option maxRecDepth 100000 in
theorem rgof_bad (m c t b : Int) (w : World) (h : ¬ Gm.valid m c t) : Calls Try.prog 13 #[.agg #[.int .i64 m, .int .i64 c, .int .i64 t], .int .i64 b] w (Says w (.tuple #[.agg #[.int .i64 0, .int .i64 0, .int .i64 0, .int .i64 0], .int .i64 60])) := by
  obtain ⟨W, hW⟩ : ∃ W, W = (w.alloc (.cells #[.int .i64 m, .int .i64 c, .int .i64 t] 23)).alloc (.cells #[.int .i64 0, .int .i64 0, .int .i64 0, .int .i64 0] 28) := ⟨_, rfl⟩
  have L := geo_box m c t w
  have CA : Hid (Chg [] w W) := by rw [hW]; exact L.1.out.alloc _
  have BP : Blk W (w.heap.size + 1) 28 [.int .i64 0, .int .i64 0, .int .i64 0, .int .i64 0] := by rw [hW]; exact heap_alloc2_new _ _ _
  have K0 : Hid (∀ w', Chg [] W w' → w'.cell? ⟨w.heap.size, 0, none⟩ = some (.int .i64 m) ∧ w'.cell? ⟨w.heap.size, 1, none⟩ = some (.int .i64 c) ∧ w'.cell? ⟨w.heap.size, 2, none⟩ = some (.int .i64 t)) := fun w' C => L.2.out w' (((Chg.refl _ _).alloc _).trans (by rw [hW] at C; exact C))
  have KS : Hid (∀ w', Chg [] W w' → ∀ a b c d, _) := fun w' C a b c d => fill4 rfl CA.out BP (Nat.le_succ _) w' C a b c d
  have CK : Hid (∀ w', Calls Try.prog 17 #[.agg #[.int .i64 m, .int .i64 c, .int .i64 t]] w' (Says w' (.int .i64 60))) := fun w' => rgcheck_bad m c t w' h
  clear h L BP
  go_enter Try.func13, Try.ntmps13
  go_wp2_with fail
  rw [← hW]
  clear hW
  refine (CK.out _).mono ?_
  rintro e w1 ⟨rfl, C1⟩
  obtain ⟨⟨z0, z1, z2, z3, c0, c1, c2, c3, f0, f1, f2, f3⟩, FW⟩ := KS.out w1 C1.out (.int .i64 0) (.int .i64 0) (.int .i64 0) (.int .i64 0)
  replace FW := Lib.hid FW
  clear CK KS K0
  go_wp2_with fail
  refine bodyPost_ret (cell_and_tmp rfl _ _ (w.heap.size + 1) _ _ _ _ rfl FW.out.2 Try.underlying28 info_place) rfl ?_
  exact ⟨rfl, FW.out.1⟩

set_option maxHeartbeats 2000000 in
set_option maxRecDepth 100000 in
theorem rgof_out (g : Gm) (hg : g.Ok) (w : World) (b : Int) (h : b < 0 ∨ (g.blocks : Int) ≤ b) : Calls Try.prog 13 #[.agg #[.int .i64 (g.n : Int), .int .i64 (g.k : Int), .int .i64 (g.s : Int)], .int .i64 b] w (Says w (.tuple #[.agg #[.int .i64 0, .int .i64 0, .int .i64 0, .int .i64 0], .int .i64 3])) := by
  obtain ⟨W, hW⟩ : ∃ W, W = (w.alloc (.cells #[.int .i64 (g.n : Int), .int .i64 (g.k : Int), .int .i64 (g.s : Int)] 23)).alloc (.cells #[.int .i64 0, .int .i64 0, .int .i64 0, .int .i64 0] 28) := ⟨_, rfl⟩
  have L := geo_box (g.n : Int) (g.k : Int) (g.s : Int) w
  have CA : Hid (Chg [] w W) := by rw [hW]; exact L.1.out.alloc _
  have BP : Blk W (w.heap.size + 1) 28 [.int .i64 0, .int .i64 0, .int .i64 0, .int .i64 0] := by rw [hW]; exact heap_alloc2_new _ _ _
  have K0 : Hid (∀ w', Chg [] W w' → w'.cell? ⟨w.heap.size, 0, none⟩ = some (.int .i64 (g.n : Int)) ∧ w'.cell? ⟨w.heap.size, 1, none⟩ = some (.int .i64 (g.k : Int)) ∧ w'.cell? ⟨w.heap.size, 2, none⟩ = some (.int .i64 (g.s : Int))) := fun w' C => L.2.out w' (((Chg.refl _ _).alloc _).trans (by rw [hW] at C; exact C))
  have KS : Hid (∀ w', Chg [] W w' → ∀ a b c d, _) := fun w' C a b c d => fill4 rfl CA.out BP (Nat.le_succ _) w' C a b c d
  have CK : Hid (∀ w', Calls Try.prog 17 #[.agg #[.int .i64 (g.n : Int), .int .i64 (g.k : Int), .int .i64 (g.s : Int)]] w' (Says w' (.int .i64 0))) := fun w' => rgcheck_good _ _ _ w' hg.valid
  have BL : Hid (∀ w', Calls Try.prog 21 #[.agg #[.int .i64 (g.n : Int), .int .i64 (g.k : Int), .int .i64 (g.s : Int)]] w' (Says w' (.int .i64 (g.blocks : Int)))) := fun w' => rgblocks_good g hg w'
  generalize (g.blocks : Int) = N at *
  have hc : b < 0 ∨ (¬ b < 0 ∧ N ≤ b) := by omega
  clear h L BP
  generalize (g.n : Int) = n at *
  generalize (g.k : Int) = k at *
  generalize (g.s : Int) = s at *
  clear hg
  rcases hc with h1 | ⟨h1, h2⟩
  all_goals
    go_enter Try.func13, Try.ntmps13
    go_wp2_with fail
    rw [← hW]
    clear hW
    refine (CK.out _).mono ?_
    rintro e w1 ⟨rfl, C1⟩
    obtain ⟨k0, k1, k2⟩ := K0.out w1 C1.out
    clear CK
    go_wp2_with fail
    refine (BL.out _).mono ?_
    rintro e w2 ⟨rfl, C2⟩
    obtain ⟨⟨z0, z1, z2, z3, c0, c1, c2, c3, f0, f1, f2, f3⟩, FW⟩ := KS.out w2 (C1.out.trans C2.out) (.int .i64 0) (.int .i64 0) (.int .i64 0) (.int .i64 0)
    replace FW := Lib.hid FW
    clear BL KS K0 C1 C2 k0 k1 k2
    go_wp2_with fail
    refine bodyPost_ret (cell_and_tmp rfl _ _ (w.heap.size + 1) _ _ _ _ rfl FW.out.2 Try.underlying28 info_place) rfl ?_
    exact ⟨rfl, FW.out.1⟩

end Go.Proofs.Ytheplbjlfkjncaa
