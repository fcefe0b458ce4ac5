/-
  The program's layout of blocks: its functions. By an AI agent. Printed by gen_gmfun.py.
-/
import Derived.Test.YtheplbjlfkjncaaGmHas
import Derived.Test.YtheplbjlfkjncaaGmPut
import Derived.Test.YtheplbjlfkjncaaGmRow
import Derived.Test.YtheplbjlfkjncaaGmWith
namespace Go.Proofs.Ytheplbjlfkjncaa
open Go.RowKit

set_option maxHeartbeats 2000000 in
set_option maxRecDepth 100000 in
theorem gcheck_bad (m c t : Int) (w : World) (h : ¬ Gm.valid m c t) : Calls Try.prog 8 #[.agg #[.int .i64 m, .int .i64 c, .int .i64 t]] w (Says w (.int .u16 60)) := by
  have CA := (geo_box m c t w).1
  have CK : Hid (∀ w', Calls Try.prog 26 #[.agg #[.int .i64 m, .int .i64 c, .int .i64 t]] w' (Says w' (.tuple #[.agg #[.int .i64 0, .int .i64 0, .int .i64 0], .int .u16 60]))) := fun w' => gchecked_bad m c t w' h
  clear h
  go_enter Try.func8, Try.ntmps8
  go_wp2_with fail
  refine (CK.out _).mono ?_
  rintro e w1 ⟨rfl, C1⟩
  have FW : Hid (Chg [] w (w1.alloc (.cells #[.int .i64 0, .int .i64 0, .int .i64 0] 72))) := (CA.out.trans C1.out).alloc _
  clear CK C1 CA
  go_wp2_with fail
  go_ret
  exact ⟨rfl, FW.out⟩

set_option maxHeartbeats 2000000 in
set_option maxRecDepth 100000 in
theorem gcheck_good (g : Gm) (hg : g.Ok) (w : World) : Calls Try.prog 8 #[.agg #[.int .i64 (g.n : Int), .int .i64 (g.k : Int), .int .i64 (g.s : Int)]] w (Says w (.int .u16 0)) := by
  have CA := (geo_box (g.n : Int) (g.k : Int) (g.s : Int) w).1
  have CK : Hid (∀ w', Calls Try.prog 26 #[.agg #[.int .i64 (g.n : Int), .int .i64 (g.k : Int), .int .i64 (g.s : Int)]] w' (Says w' (.tuple #[.agg #[.int .i64 (g.n : Int), .int .i64 (g.k : Int), .int .i64 (g.s : Int)], .int .u16 0]))) := fun w' => gchecked_good _ _ _ w' hg.valid
  generalize (g.n : Int) = n at *
  generalize (g.k : Int) = k at *
  generalize (g.s : Int) = s at *
  clear hg
  go_enter Try.func8, Try.ntmps8
  go_wp2_with fail
  refine (CK.out _).mono ?_
  rintro e w1 ⟨rfl, C1⟩
  have FW : Hid (Chg [] w (w1.alloc (.cells #[.int .i64 n, .int .i64 k, .int .i64 s] 72))) := (CA.out.trans C1.out).alloc _
  clear CK C1 CA
  go_wp2_with fail
  go_ret
  exact ⟨rfl, FW.out⟩

set_option maxHeartbeats 2000000 in
set_option maxRecDepth 100000 in
theorem grows_bad (m c t : Int) (w : World) (h : ¬ Gm.valid m c t) : Calls Try.prog 18 #[.agg #[.int .i64 m, .int .i64 c, .int .i64 t]] w (Says w (.int .i64 0)) := by
  have CA := (geo_box m c t w).1
  have CK : Hid (∀ w', Calls Try.prog 26 #[.agg #[.int .i64 m, .int .i64 c, .int .i64 t]] w' (Says w' (.tuple #[.agg #[.int .i64 0, .int .i64 0, .int .i64 0], .int .u16 60]))) := fun w' => gchecked_bad m c t w' h
  clear h
  go_enter Try.func18, Try.ntmps18
  go_wp2_with fail
  refine (CK.out _).mono ?_
  rintro e w1 ⟨rfl, C1⟩
  have FW : Hid (Chg [] w (w1.alloc (.cells #[.int .i64 0, .int .i64 0, .int .i64 0] 72))) := (CA.out.trans C1.out).alloc _
  clear CK C1 CA
  go_wp2_with fail
  go_ret
  exact ⟨rfl, FW.out⟩

set_option maxHeartbeats 2000000 in
set_option maxRecDepth 100000 in
theorem grows_good (g : Gm) (hg : g.Ok) (w : World) : Calls Try.prog 18 #[.agg #[.int .i64 (g.n : Int), .int .i64 (g.k : Int), .int .i64 (g.s : Int)]] w (Says w (.int .i64 (g.rows : Int))) := by
  have CA := (geo_box (g.n : Int) (g.k : Int) (g.s : Int) w).1
  have CK : Hid (∀ w', Calls Try.prog 26 #[.agg #[.int .i64 (g.n : Int), .int .i64 (g.k : Int), .int .i64 (g.s : Int)]] w' (Says w' (.tuple #[.agg #[.int .i64 (g.n : Int), .int .i64 (g.k : Int), .int .i64 (g.s : Int)], .int .u16 0]))) := fun w' => gchecked_good _ _ _ w' hg.valid
  have LR : Hid (∀ w', Calls Try.prog 34 #[.agg #[.int .i64 (g.n : Int), .int .i64 (g.k : Int), .int .i64 (g.s : Int)]] w' (Says w' (.int .i64 (g.rows : Int)))) := fun w' => lrows g hg w'
  generalize (g.rows : Int) = R at *
  generalize (g.n : Int) = n at *
  generalize (g.k : Int) = k at *
  generalize (g.s : Int) = s at *
  clear hg
  go_enter Try.func18, Try.ntmps18
  go_wp2_with fail
  refine (CK.out _).mono ?_
  rintro e w1 ⟨rfl, C1⟩
  have FW : Hid (Chg [] w (w1.alloc (.cells #[.int .i64 n, .int .i64 k, .int .i64 s] 72))) := (CA.out.trans C1.out).alloc _
  clear CK C1 CA
  go_wp2_with fail
  refine (LR.out _).mono ?_
  rintro e w2 ⟨rfl, C2⟩
  replace FW := Lib.hid (FW.out.trans C2.out)
  clear LR C2
  go_wp2_with fail
  go_ret
  exact ⟨rfl, FW.out⟩

set_option maxHeartbeats 2000000 in
set_option maxRecDepth 100000 in
theorem gblocks_bad (m c t : Int) (w : World) (h : ¬ Gm.valid m c t) : Calls Try.prog 20 #[.agg #[.int .i64 m, .int .i64 c, .int .i64 t]] w (Says w (.int .i64 0)) := by
  have CA := (geo_box m c t w).1
  have CK : Hid (∀ w', Calls Try.prog 26 #[.agg #[.int .i64 m, .int .i64 c, .int .i64 t]] w' (Says w' (.tuple #[.agg #[.int .i64 0, .int .i64 0, .int .i64 0], .int .u16 60]))) := fun w' => gchecked_bad m c t w' h
  clear h
  go_enter Try.func20, Try.ntmps20
  go_wp2_with fail
  refine (CK.out _).mono ?_
  rintro e w1 ⟨rfl, C1⟩
  have FW : Hid (Chg [] w (w1.alloc (.cells #[.int .i64 0, .int .i64 0, .int .i64 0] 72))) := (CA.out.trans C1.out).alloc _
  clear CK C1 CA
  go_wp2_with fail
  go_ret
  exact ⟨rfl, FW.out⟩

set_option maxHeartbeats 2000000 in
set_option maxRecDepth 100000 in
theorem gblocks_good (g : Gm) (hg : g.Ok) (w : World) : Calls Try.prog 20 #[.agg #[.int .i64 (g.n : Int), .int .i64 (g.k : Int), .int .i64 (g.s : Int)]] w (Says w (.int .i64 (g.blocks : Int))) := by
  have CA := (geo_box (g.n : Int) (g.k : Int) (g.s : Int) w).1
  have CK : Hid (∀ w', Calls Try.prog 26 #[.agg #[.int .i64 (g.n : Int), .int .i64 (g.k : Int), .int .i64 (g.s : Int)]] w' (Says w' (.tuple #[.agg #[.int .i64 (g.n : Int), .int .i64 (g.k : Int), .int .i64 (g.s : Int)], .int .u16 0]))) := fun w' => gchecked_good _ _ _ w' hg.valid
  have LR : Hid (∀ w', Calls Try.prog 28 #[.agg #[.int .i64 (g.n : Int), .int .i64 (g.k : Int), .int .i64 (g.s : Int)]] w' (Says w' (.int .i64 (g.blocks : Int)))) := fun w' => lblocks g hg w'
  generalize (g.blocks : Int) = R at *
  generalize (g.n : Int) = n at *
  generalize (g.k : Int) = k at *
  generalize (g.s : Int) = s at *
  clear hg
  go_enter Try.func20, Try.ntmps20
  go_wp2_with fail
  refine (CK.out _).mono ?_
  rintro e w1 ⟨rfl, C1⟩
  have FW : Hid (Chg [] w (w1.alloc (.cells #[.int .i64 n, .int .i64 k, .int .i64 s] 72))) := (CA.out.trans C1.out).alloc _
  clear CK C1 CA
  go_wp2_with fail
  refine (LR.out _).mono ?_
  rintro e w2 ⟨rfl, C2⟩
  replace FW := Lib.hid (FW.out.trans C2.out)
  clear LR C2
  go_wp2_with fail
  go_ret
  exact ⟨rfl, FW.out⟩

set_option maxHeartbeats 2000000 in
set_option maxRecDepth 100000 in
theorem gparity_bad (m c t r : Int) (w : World) (h : ¬ Gm.valid m c t) : Calls Try.prog 10 #[.agg #[.int .i64 m, .int .i64 c, .int .i64 t], .int .i64 r] w (Says w (.tuple #[.int .i64 0, .int .u16 60])) := by
  have CA := (geo_box m c t w).1
  have CK : Hid (∀ w', Calls Try.prog 30 #[.agg #[.int .i64 m, .int .i64 c, .int .i64 t], .int .i64 r] w' (Says w' (.tuple #[.agg #[.int .i64 0, .int .i64 0, .int .i64 0], .int .u16 60]))) := fun w' => has_bad m c t r w' h
  clear h
  go_enter Try.func10, Try.ntmps10
  go_wp2_with fail
  refine (CK.out _).mono ?_
  rintro e w1 ⟨rfl, C1⟩
  have FW : Hid (Chg [] w (w1.alloc (.cells #[.int .i64 0, .int .i64 0, .int .i64 0] 72))) := (CA.out.trans C1.out).alloc _
  clear CK C1 CA
  go_wp2_with fail
  go_ret2
  exact ⟨rfl, FW.out⟩

set_option maxHeartbeats 2000000 in
set_option maxRecDepth 100000 in
theorem gparity_out (g : Gm) (hg : g.Ok) (w : World) (r : Int) (h : r < 0 ∨ (g.rows : Int) ≤ r) : Calls Try.prog 10 #[.agg #[.int .i64 (g.n : Int), .int .i64 (g.k : Int), .int .i64 (g.s : Int)], .int .i64 r] w (Says w (.tuple #[.int .i64 0, .int .u16 3])) := by
  have CA := (geo_box (g.n : Int) (g.k : Int) (g.s : Int) w).1
  have CK : Hid (∀ w', Calls Try.prog 30 #[.agg #[.int .i64 (g.n : Int), .int .i64 (g.k : Int), .int .i64 (g.s : Int)], .int .i64 r] w' (Says w' (.tuple #[.agg #[.int .i64 0, .int .i64 0, .int .i64 0], .int .u16 3]))) := fun w' => has_out g hg w' r h
  clear h
  generalize (g.n : Int) = n at *
  generalize (g.k : Int) = k at *
  generalize (g.s : Int) = s at *
  clear hg
  go_enter Try.func10, Try.ntmps10
  go_wp2_with fail
  refine (CK.out _).mono ?_
  rintro e w1 ⟨rfl, C1⟩
  have FW : Hid (Chg [] w (w1.alloc (.cells #[.int .i64 0, .int .i64 0, .int .i64 0] 72))) := (CA.out.trans C1.out).alloc _
  clear CK C1 CA
  go_wp2_with fail
  go_ret2
  exact ⟨rfl, FW.out⟩

set_option maxHeartbeats 2000000 in
set_option maxRecDepth 100000 in
theorem gmembers_bad (m c t r : Int) (w : World) (h : ¬ Gm.valid m c t) : Calls Try.prog 11 #[.agg #[.int .i64 m, .int .i64 c, .int .i64 t], .int .i64 r] w (Says w (.tuple #[.slice none 0 0, .int .u16 60])) := by
  have CA := (geo_box m c t w).1
  have CK : Hid (∀ w', Calls Try.prog 30 #[.agg #[.int .i64 m, .int .i64 c, .int .i64 t], .int .i64 r] w' (Says w' (.tuple #[.agg #[.int .i64 0, .int .i64 0, .int .i64 0], .int .u16 60]))) := fun w' => has_bad m c t r w' h
  clear h
  go_enter Try.func11, Try.ntmps11
  go_wp2_with fail
  refine (CK.out _).mono ?_
  rintro e w1 ⟨rfl, C1⟩
  have FW : Hid (Chg [] w (w1.alloc (.cells #[.int .i64 0, .int .i64 0, .int .i64 0] 72))) := (CA.out.trans C1.out).alloc _
  clear CK C1 CA
  go_wp2_with fail
  go_ret2
  exact ⟨rfl, FW.out⟩

set_option maxHeartbeats 2000000 in
set_option maxRecDepth 100000 in
theorem gmembers_out (g : Gm) (hg : g.Ok) (w : World) (r : Int) (h : r < 0 ∨ (g.rows : Int) ≤ r) : Calls Try.prog 11 #[.agg #[.int .i64 (g.n : Int), .int .i64 (g.k : Int), .int .i64 (g.s : Int)], .int .i64 r] w (Says w (.tuple #[.slice none 0 0, .int .u16 3])) := by
  have CA := (geo_box (g.n : Int) (g.k : Int) (g.s : Int) w).1
  have CK : Hid (∀ w', Calls Try.prog 30 #[.agg #[.int .i64 (g.n : Int), .int .i64 (g.k : Int), .int .i64 (g.s : Int)], .int .i64 r] w' (Says w' (.tuple #[.agg #[.int .i64 0, .int .i64 0, .int .i64 0], .int .u16 3]))) := fun w' => has_out g hg w' r h
  clear h
  generalize (g.n : Int) = n at *
  generalize (g.k : Int) = k at *
  generalize (g.s : Int) = s at *
  clear hg
  go_enter Try.func11, Try.ntmps11
  go_wp2_with fail
  refine (CK.out _).mono ?_
  rintro e w1 ⟨rfl, C1⟩
  have FW : Hid (Chg [] w (w1.alloc (.cells #[.int .i64 0, .int .i64 0, .int .i64 0] 72))) := (CA.out.trans C1.out).alloc _
  clear CK C1 CA
  go_wp2_with fail
  go_ret2
  exact ⟨rfl, FW.out⟩

set_option maxHeartbeats 2000000 in
set_option maxRecDepth 100000 in
theorem gparity_in (g : Gm) (hg : g.Ok) (w : World) (r : Nat) (hr : r < g.rows) : Calls Try.prog 10 #[.agg #[.int .i64 (g.n : Int), .int .i64 (g.k : Int), .int .i64 (g.s : Int)], .int .i64 (r : Int)] w (Says w (.tuple #[.int .i64 (g.par (r / g.k) : Int), .int .u16 0])) := by
  have CA := (geo_box (g.n : Int) (g.k : Int) (g.s : Int) w).1
  have CK : Hid (∀ w', Calls Try.prog 30 #[.agg #[.int .i64 (g.n : Int), .int .i64 (g.k : Int), .int .i64 (g.s : Int)], .int .i64 (r : Int)] w' (Says w' (.tuple #[.agg #[.int .i64 (g.n : Int), .int .i64 (g.k : Int), .int .i64 (g.s : Int)], .int .u16 0]))) := fun w' => has_in g hg w' r ⟨Int.natCast_nonneg _, by omega⟩
  have LP : Hid (∀ w', Calls Try.prog 31 #[.agg #[.int .i64 (g.n : Int), .int .i64 (g.k : Int), .int .i64 (g.s : Int)], .int .i64 (r : Int)] w' (Says w' (.int .i64 (g.par (r / g.k) : Int)))) := fun w' => lpar g hg w' r hr
  generalize (g.par (r / g.k) : Int) = p at *
  generalize (r : Int) = r' at *
  generalize (g.n : Int) = n at *
  generalize (g.k : Int) = k at *
  generalize (g.s : Int) = s at *
  clear hg hr
  go_enter Try.func10, Try.ntmps10
  go_wp2_with fail
  refine (CK.out _).mono ?_
  rintro e w1 ⟨rfl, C1⟩
  have FW : Hid (Chg [] w (w1.alloc (.cells #[.int .i64 n, .int .i64 k, .int .i64 s] 72))) := (CA.out.trans C1.out).alloc _
  clear CK C1 CA
  go_wp2_with fail
  refine (LP.out _).mono ?_
  rintro e w2 ⟨rfl, C2⟩
  replace FW := Lib.hid (FW.out.trans C2.out)
  clear LP C2
  go_wp2_with fail
  go_ret2
  exact ⟨rfl, FW.out⟩

set_option maxHeartbeats 2000000 in
set_option maxRecDepth 100000 in
theorem gmembers_in (g : Gm) (hg : g.Ok) (w : World) (r : Nat) (hr : r < g.rows) : Calls Try.prog 11 #[.agg #[.int .i64 (g.n : Int), .int .i64 (g.k : Int), .int .i64 (g.s : Int)], .int .i64 (r : Int)] w (SaysList w (g.list (g.par (r / g.k))) (.int .u16 0)) := by
  have CA := (geo_box (g.n : Int) (g.k : Int) (g.s : Int) w).1
  have CK : Hid (∀ w', Calls Try.prog 30 #[.agg #[.int .i64 (g.n : Int), .int .i64 (g.k : Int), .int .i64 (g.s : Int)], .int .i64 (r : Int)] w' (Says w' (.tuple #[.agg #[.int .i64 (g.n : Int), .int .i64 (g.k : Int), .int .i64 (g.s : Int)], .int .u16 0]))) := fun w' => has_in g hg w' r ⟨Int.natCast_nonneg _, by omega⟩
  have LP : Hid (∀ w', Calls Try.prog 32 #[.agg #[.int .i64 (g.n : Int), .int .i64 (g.k : Int), .int .i64 (g.s : Int)], .int .i64 (r : Int)] w' _) := fun w' => lwith g hg w' r hr
  generalize g.list (g.par (r / g.k)) = l at *
  generalize (r : Int) = r' at *
  generalize (g.n : Int) = n at *
  generalize (g.k : Int) = k at *
  generalize (g.s : Int) = s at *
  clear hg hr
  go_enter Try.func11, Try.ntmps11
  go_wp2_with fail
  refine (CK.out _).mono ?_
  rintro e w1 ⟨rfl, C1⟩
  have FW : Hid (Chg [] w (w1.alloc (.cells #[.int .i64 n, .int .i64 k, .int .i64 s] 72))) := (CA.out.trans C1.out).alloc _
  clear CK C1 CA
  go_wp2_with fail
  refine (LP.out _).mono ?_
  rintro e w2 ⟨u, rfl, O, C2⟩
  replace O := Lib.hid (ownsRow_base O.out FW.out.size)
  replace FW := Lib.hid (FW.out.trans C2.out)
  clear LP C2
  obtain ⟨uo, uc, rfl⟩ := owns_slice O.out
  go_wp2_with fail
  go_ret2
  exact ⟨_, rfl, O, FW⟩

set_option maxHeartbeats 2000000 in
set_option maxRecDepth 100000 in
theorem gat_bad (m c t a r : Int) (w : World) (h : ¬ Gm.valid m c t) : Calls Try.prog 12 #[.agg #[.int .i64 m, .int .i64 c, .int .i64 t], .int .i64 a, .int .i64 r] w (Says w (.tuple #[.int .i64 0, .bool false, .int .u16 60])) := by
  have CA := (geo_box m c t w).1
  have CK : Hid (∀ w', Calls Try.prog 30 #[.agg #[.int .i64 m, .int .i64 c, .int .i64 t], .int .i64 r] w' (Says w' (.tuple #[.agg #[.int .i64 0, .int .i64 0, .int .i64 0], .int .u16 60]))) := fun w' => has_bad m c t r w' h
  clear h
  go_enter Try.func12, Try.ntmps12
  go_wp2_with fail
  refine (CK.out _).mono ?_
  rintro e w1 ⟨rfl, C1⟩
  have FW : Hid (Chg [] w (w1.alloc (.cells #[.int .i64 0, .int .i64 0, .int .i64 0] 72))) := (CA.out.trans C1.out).alloc _
  clear CK C1 CA
  go_wp2_with fail
  go_ret3
  exact ⟨rfl, FW.out⟩

set_option maxHeartbeats 2000000 in
set_option maxRecDepth 100000 in
theorem gat_row (g : Gm) (hg : g.Ok) (w : World) (a r : Int) (h : r < 0 ∨ (g.rows : Int) ≤ r) : Calls Try.prog 12 #[.agg #[.int .i64 (g.n : Int), .int .i64 (g.k : Int), .int .i64 (g.s : Int)], .int .i64 a, .int .i64 r] w (Says w (.tuple #[.int .i64 0, .bool false, .int .u16 3])) := by
  have CA := (geo_box (g.n : Int) (g.k : Int) (g.s : Int) w).1
  have CK : Hid (∀ w', Calls Try.prog 30 #[.agg #[.int .i64 (g.n : Int), .int .i64 (g.k : Int), .int .i64 (g.s : Int)], .int .i64 r] w' (Says w' (.tuple #[.agg #[.int .i64 0, .int .i64 0, .int .i64 0], .int .u16 3]))) := fun w' => has_out g hg w' r h
  clear h
  generalize (g.n : Int) = n at *
  generalize (g.k : Int) = k at *
  generalize (g.s : Int) = s at *
  clear hg
  go_enter Try.func12, Try.ntmps12
  go_wp2_with fail
  refine (CK.out _).mono ?_
  rintro e w1 ⟨rfl, C1⟩
  have FW : Hid (Chg [] w (w1.alloc (.cells #[.int .i64 0, .int .i64 0, .int .i64 0] 72))) := (CA.out.trans C1.out).alloc _
  clear CK C1 CA
  go_wp2_with fail
  go_ret3
  exact ⟨rfl, FW.out⟩

set_option maxHeartbeats 2000000 in
set_option maxRecDepth 100000 in
theorem gat_member (g : Gm) (hg : g.Ok) (w : World) (a : Int) (r : Nat) (hr : r < g.rows) (h : a < 0 ∨ (g.n : Int) ≤ a) : Calls Try.prog 12 #[.agg #[.int .i64 (g.n : Int), .int .i64 (g.k : Int), .int .i64 (g.s : Int)], .int .i64 a, .int .i64 (r : Int)] w (Says w (.tuple #[.int .i64 0, .bool false, .int .u16 3])) := by
  have CA := (geo_box (g.n : Int) (g.k : Int) (g.s : Int) w).1
  have CK : Hid (∀ w', Calls Try.prog 30 #[.agg #[.int .i64 (g.n : Int), .int .i64 (g.k : Int), .int .i64 (g.s : Int)], .int .i64 (r : Int)] w' (Says w' (.tuple #[.agg #[.int .i64 (g.n : Int), .int .i64 (g.k : Int), .int .i64 (g.s : Int)], .int .u16 0]))) := fun w' => has_in g hg w' r ⟨Int.natCast_nonneg _, by omega⟩
  have LB : Hid (∀ w1 : World, _) := fun w1 => lay_box (g.n : Int) (g.k : Int) (g.s : Int) w1
  have OU : Hid (∀ w', Calls Try.prog 27 #[.int .i64 a, .int .i64 (g.n : Int)] w' fun e w'' => e = .returned (.bool true) ∧ w'' = w') := fun w' => outside_any a _ true w' ⟨fun _ => h, fun _ => rfl⟩
  clear h
  generalize (r : Int) = r' at *
  generalize (g.n : Int) = n at *
  generalize (g.k : Int) = k at *
  generalize (g.s : Int) = s at *
  clear hg hr
  go_enter Try.func12, Try.ntmps12
  go_wp2_with fail
  refine (CK.out _).mono ?_
  rintro e w1 ⟨rfl, C1⟩
  obtain ⟨LA, LK⟩ := LB.out w1
  have FW := Lib.hid ((CA.out.trans C1.out).trans LA.out)
  clear CK C1 CA LA LK LB
  go_wp2_with fail
  refine (OU.out _).mono ?_
  rintro e w2 ⟨rfl, rfl⟩
  clear OU
  go_wp2_with fail
  go_ret3
  exact ⟨rfl, FW.out⟩

set_option maxHeartbeats 2000000 in
set_option maxRecDepth 100000 in
theorem gat_par (g : Gm) (hg : g.Ok) (w : World) (r : Nat) (hr : r < g.rows) : Calls Try.prog 12 #[.agg #[.int .i64 (g.n : Int), .int .i64 (g.k : Int), .int .i64 (g.s : Int)], .int .i64 (g.par (r / g.k) : Int), .int .i64 (r : Int)] w (Says w (.tuple #[.int .i64 0, .bool true, .int .u16 0])) := by
  have hn := hg.n
  have hm : g.par (r / g.k) < g.n := Gm.par_lt (by omega) _
  obtain ⟨a, ha⟩ : ∃ a, a = g.par (r / g.k) := ⟨_, rfl⟩
  rw [← ha] at hm ⊢
  have CA := (geo_box (g.n : Int) (g.k : Int) (g.s : Int) w).1
  have CK : Hid (∀ w', Calls Try.prog 30 #[.agg #[.int .i64 (g.n : Int), .int .i64 (g.k : Int), .int .i64 (g.s : Int)], .int .i64 (r : Int)] w' (Says w' (.tuple #[.agg #[.int .i64 (g.n : Int), .int .i64 (g.k : Int), .int .i64 (g.s : Int)], .int .u16 0]))) := fun w' => has_in g hg w' r ⟨Int.natCast_nonneg _, by omega⟩
  have LB : Hid (∀ w1 : World, _) := fun w1 => lay_box (g.n : Int) (g.k : Int) (g.s : Int) w1
  have OU : Hid (∀ w', Calls Try.prog 27 #[.int .i64 (a : Int), .int .i64 (g.n : Int)] w' fun e w'' => e = .returned (.bool false) ∧ w'' = w') := fun w' => outside_any a _ false w' ⟨(fun h => by cases h), (fun h => by omega)⟩
  have LP : Hid (∀ w', Calls Try.prog 31 #[.agg #[.int .i64 (g.n : Int), .int .i64 (g.k : Int), .int .i64 (g.s : Int)], .int .i64 (r : Int)] w' (Says w' (.int .i64 (g.par (r / g.k) : Int)))) := fun w' => lpar g hg w' r hr
  have hq : ((a : Int) == (a : Int)) = true := by simp
  rw [← ha] at LP
  clear ha
  generalize (r : Int) = r' at *
  generalize (a : Int) = a' at *
  generalize (g.n : Int) = n at *
  generalize (g.k : Int) = k at *
  generalize (g.s : Int) = s at *
  clear hg hr hm hn
  go_enter Try.func12, Try.ntmps12
  go_wp2_with fail
  refine (CK.out _).mono ?_
  rintro e w1 ⟨rfl, C1⟩
  obtain ⟨LA, LK⟩ := LB.out w1
  have FW := Lib.hid ((CA.out.trans C1.out).trans LA.out)
  clear CK C1 CA LA LB
  go_wp2_with fail
  refine (OU.out _).mono ?_
  rintro e w2 ⟨rfl, rfl⟩
  clear OU
  go_wp2_with fail
  refine (LP.out _).mono ?_
  rintro e w3 ⟨rfl, C3⟩
  obtain ⟨k0, k1, k2⟩ := LK.out w3 C3.out
  replace FW := Lib.hid (FW.out.trans C3.out)
  clear LP C3 LK
  go_wp2_with fail
  go_ret3
  exact ⟨rfl, FW.out⟩

set_option maxHeartbeats 2000000 in
set_option maxRecDepth 100000 in
theorem gat_in (g : Gm) (hg : g.Ok) (w : World) (a r : Nat) (hm : a < g.n) (hr : r < g.rows) (hne : a ≠ g.par (r / g.k)) : Calls Try.prog 12 #[.agg #[.int .i64 (g.n : Int), .int .i64 (g.k : Int), .int .i64 (g.s : Int)], .int .i64 (a : Int), .int .i64 (r : Int)] w (Says w (.tuple #[.int .i64 (g.block a r : Int), .bool false, .int .u16 0])) := by
  have hn := hg.n
  have LL : Hid (∀ w', Calls Try.prog 33 #[.agg #[.int .i64 (g.n : Int), .int .i64 (g.k : Int), .int .i64 (g.s : Int)], .int .i64 (a : Int), .int .i64 (r : Int)] w' (Says w' (.int .i64 (g.block a r : Int)))) := fun w' => lblock g hg w' a r hm hr hne
  generalize (g.block a r : Int) = X at *
  have CA := (geo_box (g.n : Int) (g.k : Int) (g.s : Int) w).1
  have CK : Hid (∀ w', Calls Try.prog 30 #[.agg #[.int .i64 (g.n : Int), .int .i64 (g.k : Int), .int .i64 (g.s : Int)], .int .i64 (r : Int)] w' (Says w' (.tuple #[.agg #[.int .i64 (g.n : Int), .int .i64 (g.k : Int), .int .i64 (g.s : Int)], .int .u16 0]))) := fun w' => has_in g hg w' r ⟨Int.natCast_nonneg _, by omega⟩
  have LB : Hid (∀ w1 : World, _) := fun w1 => lay_box (g.n : Int) (g.k : Int) (g.s : Int) w1
  have OU : Hid (∀ w', Calls Try.prog 27 #[.int .i64 (a : Int), .int .i64 (g.n : Int)] w' fun e w'' => e = .returned (.bool false) ∧ w'' = w') := fun w' => outside_any a _ false w' ⟨(fun h => by cases h), (fun h => by omega)⟩
  have LP : Hid (∀ w', Calls Try.prog 31 #[.agg #[.int .i64 (g.n : Int), .int .i64 (g.k : Int), .int .i64 (g.s : Int)], .int .i64 (r : Int)] w' (Says w' (.int .i64 (g.par (r / g.k) : Int)))) := fun w' => lpar g hg w' r hr
  have hq : ((a : Int) == (g.par (r / g.k) : Int)) = false := beq_false_of_ne (by omega)
  clear hne
  generalize (g.par (r / g.k) : Int) = p at *
  generalize (r : Int) = r' at *
  generalize (a : Int) = a' at *
  generalize (g.n : Int) = n at *
  generalize (g.k : Int) = k at *
  generalize (g.s : Int) = s at *
  clear hg hr hm hn
  go_enter Try.func12, Try.ntmps12
  go_wp2_with fail
  refine (CK.out _).mono ?_
  rintro e w1 ⟨rfl, C1⟩
  obtain ⟨LA, LK⟩ := LB.out w1
  have FW := Lib.hid ((CA.out.trans C1.out).trans LA.out)
  clear CK C1 CA LA LB
  go_wp2_with fail
  refine (OU.out _).mono ?_
  rintro e w2 ⟨rfl, rfl⟩
  clear OU
  go_wp2_with fail
  refine (LP.out _).mono ?_
  rintro e w3 ⟨rfl, C3⟩
  obtain ⟨k0, k1, k2⟩ := LK.out w3 C3.out
  replace FW := Lib.hid (FW.out.trans C3.out)
  clear LP C3 LK
  go_wp2_with fail
  refine (LL.out _).mono ?_
  rintro e w4 ⟨rfl, C4⟩
  replace FW := Lib.hid (FW.out.trans C4.out)
  clear LL C4
  go_wp2_with fail
  go_ret3
  exact ⟨rfl, FW.out⟩

/-- A place's struct that is filled: its own block, and the rest as it was. -/
theorem fill4 {w W : World} {B : Nat} {e : TypeId} {vs : List Value} (hl : vs.length = 4) (CA : Chg [] w W) (BP : Blk W B e vs) (hB : w.heap.size ≤ B) (w' : World) (C : Chg [] W w') (a b c d : Value) :
    (∃ z0 z1 z2 z3, w'.cell? ⟨B, 0, none⟩ = some z0 ∧ w'.cell? ⟨B, 1, none⟩ = some z1 ∧ w'.cell? ⟨B, 2, none⟩ = some z2 ∧ w'.cell? ⟨B, 3, none⟩ = some z3 ∧ w'.frozen? ⟨B, 0, none⟩ = false ∧ w'.frozen? ⟨B, 1, none⟩ = false ∧ w'.frozen? ⟨B, 2, none⟩ = false ∧ w'.frozen? ⟨B, 3, none⟩ = false) ∧
    Chg [] w ((((w'.setCell ⟨B, 0, none⟩ a).setCell ⟨B, 1, none⟩ b).setCell ⟨B, 2, none⟩ c).setCell ⟨B, 3, none⟩ d) ∧ Blk ((((w'.setCell ⟨B, 0, none⟩ a).setCell ⟨B, 1, none⟩ b).setCell ⟨B, 2, none⟩ c).setCell ⟨B, 3, none⟩ d) B e [a, b, c, d] := by
  match vs, hl with
  | [z0, z1, z2, z3], _ =>
    have B1 := BP.chg C (by simp)
    exact ⟨⟨z0, z1, z2, z3, B1.cell rfl, B1.cell rfl, B1.cell rfl, B1.cell rfl, B1.free 0, B1.free 1, B1.free 2, B1.free 3⟩, ((((CA.trans C).setCell (.inr hB) _).setCell (.inr hB) _).setCell (.inr hB) _).setCell (.inr hB) _, (((B1.set 0 a).set 1 b).set 2 c).set 3 d⟩

set_option maxHeartbeats 2000000 in
set_option maxRecDepth 100000 in
theorem gof_bad (m c t b : Int) (w : World) (h : ¬ Gm.valid m c t) : Calls Try.prog 9 #[.agg #[.int .i64 m, .int .i64 c, .int .i64 t], .int .i64 b] w (Says w (.tuple #[.agg #[.int .i64 0, .int .i64 0, .int .i64 0, .int .i64 0], .int .u16 60])) := by
  obtain ⟨W, hW⟩ : ∃ W, W = (w.alloc (.cells #[.int .i64 m, .int .i64 c, .int .i64 t] 23)).alloc (.cells #[.int .i64 0, .int .i64 0, .int .i64 0, .int .i64 0] 28) := ⟨_, rfl⟩
  have L := geo_box m c t w
  have CA : Hid (Chg [] w W) := by rw [hW]; exact L.1.out.alloc _
  have BP : Blk W (w.heap.size + 1) 28 [.int .i64 0, .int .i64 0, .int .i64 0, .int .i64 0] := by rw [hW]; exact heap_alloc2_new _ _ _
  have KS : Hid (∀ w', Chg [] W w' → ∀ a b c d, _) := fun w' C a b c d => fill4 rfl CA.out BP (Nat.le_succ _) w' C a b c d
  have CK : Hid (∀ w', Calls Try.prog 26 #[.agg #[.int .i64 m, .int .i64 c, .int .i64 t]] w' (Says w' (.tuple #[.agg #[.int .i64 0, .int .i64 0, .int .i64 0], .int .u16 60]))) := fun w' => gchecked_bad m c t w' h
  clear h L BP
  go_enter Try.func9, Try.ntmps9
  go_wp2_with fail
  rw [← hW]
  clear hW
  refine (CK.out _).mono ?_
  rintro e w1 ⟨rfl, C1⟩
  obtain ⟨⟨z0, z1, z2, z3, c0, c1, c2, c3, f0, f1, f2, f3⟩, FW⟩ := KS.out w1 C1.out (.int .i64 0) (.int .i64 0) (.int .i64 0) (.int .i64 0)
  replace FW := Lib.hid FW
  have hz : w.heap.size + 1 < w1.heap.size := block_lt_of_cell c0
  clear CK KS
  go_wp2_with fail
  refine bodyPost_ret (cell_and_tmp rfl _ _ (w.heap.size + 1) _ _ _ _ rfl (FW.out.2.alloc _) Try.underlying28 info_place) rfl ?_
  exact ⟨rfl, FW.out.1.alloc _⟩

set_option maxHeartbeats 2000000 in
set_option maxRecDepth 100000 in
theorem gof_out (g : Gm) (hg : g.Ok) (w : World) (b : Int) (h : b < 0 ∨ (g.blocks : Int) ≤ b) : Calls Try.prog 9 #[.agg #[.int .i64 (g.n : Int), .int .i64 (g.k : Int), .int .i64 (g.s : Int)], .int .i64 b] w (Says w (.tuple #[.agg #[.int .i64 0, .int .i64 0, .int .i64 0, .int .i64 0], .int .u16 3])) := by
  obtain ⟨W, hW⟩ : ∃ W, W = (w.alloc (.cells #[.int .i64 (g.n : Int), .int .i64 (g.k : Int), .int .i64 (g.s : Int)] 23)).alloc (.cells #[.int .i64 0, .int .i64 0, .int .i64 0, .int .i64 0] 28) := ⟨_, rfl⟩
  have L := geo_box (g.n : Int) (g.k : Int) (g.s : Int) w
  have CA : Hid (Chg [] w W) := by rw [hW]; exact L.1.out.alloc _
  have BP : Blk W (w.heap.size + 1) 28 [.int .i64 0, .int .i64 0, .int .i64 0, .int .i64 0] := by rw [hW]; exact heap_alloc2_new _ _ _
  have KS : Hid (∀ w', Chg [] W w' → ∀ a b c d, _) := fun w' C a b c d => fill4 rfl CA.out BP (Nat.le_succ _) w' C a b c d
  have CK : Hid (∀ w', Calls Try.prog 26 #[.agg #[.int .i64 (g.n : Int), .int .i64 (g.k : Int), .int .i64 (g.s : Int)]] w' (Says w' (.tuple #[.agg #[.int .i64 (g.n : Int), .int .i64 (g.k : Int), .int .i64 (g.s : Int)], .int .u16 0]))) := fun w' => gchecked_good _ _ _ w' hg.valid
  have LR : Hid (∀ w', Calls Try.prog 28 #[.agg #[.int .i64 (g.n : Int), .int .i64 (g.k : Int), .int .i64 (g.s : Int)]] w' (Says w' (.int .i64 (g.blocks : Int)))) := fun w' => lblocks g hg w'
  have OU : Hid (∀ w', Calls Try.prog 27 #[.int .i64 b, .int .i64 (g.blocks : Int)] w' fun e w'' => e = .returned (.bool true) ∧ w'' = w') := fun w' => outside_any _ _ true w' ⟨fun _ => h, fun _ => rfl⟩
  have LB : Hid (∀ w1 : World, _) := fun w1 => lay_box (g.n : Int) (g.k : Int) (g.s : Int) w1
  clear h
  clear L BP
  generalize (g.blocks : Int) = R at *
  generalize (g.n : Int) = n at *
  generalize (g.k : Int) = k at *
  generalize (g.s : Int) = s at *
  clear hg
  go_enter Try.func9, Try.ntmps9
  go_wp2_with fail
  rw [← hW]
  clear hW
  refine (CK.out _).mono ?_
  rintro e w1 ⟨rfl, C1⟩
  obtain ⟨LA, LK⟩ := LB.out w1
  clear CK LB
  go_wp2_with fail
  refine (LR.out _).mono ?_
  rintro e w2 ⟨rfl, C2⟩
  have C3 : Hid (Chg [] W w2) := C1.out.trans (LA.out.trans C2.out)
  clear LR
  go_wp2_with fail
  refine (OU.out _).mono ?_
  rintro e w3 ⟨rfl, rfl⟩
  obtain ⟨⟨z0, z1, z2, z3, c0, c1, c2, c3, f0, f1, f2, f3⟩, FW⟩ := KS.out _ C3.out (.int .i64 0) (.int .i64 0) (.int .i64 0) (.int .i64 0)
  replace FW := Lib.hid FW
  clear OU KS C1 LA LK C2 C3
  go_wp2_with fail
  refine bodyPost_ret (cell_and_tmp rfl _ _ (w.heap.size + 1) _ _ _ _ rfl FW.out.2 Try.underlying28 info_place) rfl ?_
  exact ⟨rfl, FW.out.1⟩

set_option maxHeartbeats 2000000 in
set_option maxRecDepth 100000 in
theorem gof_in (g : Gm) (hg : g.Ok) (w : World) (b : Nat) (h : b < g.blocks) : Calls Try.prog 9 #[.agg #[.int .i64 (g.n : Int), .int .i64 (g.k : Int), .int .i64 (g.s : Int)], .int .i64 (b : Int)] w (Says w (.tuple #[g.placeV b, .int .u16 0])) := by
  obtain ⟨W, hW⟩ : ∃ W, W = (w.alloc (.cells #[.int .i64 (g.n : Int), .int .i64 (g.k : Int), .int .i64 (g.s : Int)] 23)).alloc (.cells #[.int .i64 0, .int .i64 0, .int .i64 0, .int .i64 0] 28) := ⟨_, rfl⟩
  have L := geo_box (g.n : Int) (g.k : Int) (g.s : Int) w
  have CA : Hid (Chg [] w W) := by rw [hW]; exact L.1.out.alloc _
  have BP : Blk W (w.heap.size + 1) 28 [.int .i64 0, .int .i64 0, .int .i64 0, .int .i64 0] := by rw [hW]; exact heap_alloc2_new _ _ _
  have KS : Hid (∀ w', Chg [] W w' → ∀ a b c d, _) := fun w' C a b c d => fill4 rfl CA.out BP (Nat.le_succ _) w' C a b c d
  have CK : Hid (∀ w', Calls Try.prog 26 #[.agg #[.int .i64 (g.n : Int), .int .i64 (g.k : Int), .int .i64 (g.s : Int)]] w' (Says w' (.tuple #[.agg #[.int .i64 (g.n : Int), .int .i64 (g.k : Int), .int .i64 (g.s : Int)], .int .u16 0]))) := fun w' => gchecked_good _ _ _ w' hg.valid
  have LR : Hid (∀ w', Calls Try.prog 28 #[.agg #[.int .i64 (g.n : Int), .int .i64 (g.k : Int), .int .i64 (g.s : Int)]] w' (Says w' (.int .i64 (g.blocks : Int)))) := fun w' => lblocks g hg w'
  have OU : Hid (∀ w', Calls Try.prog 27 #[.int .i64 (b : Int), .int .i64 (g.blocks : Int)] w' fun e w'' => e = .returned (.bool false) ∧ w'' = w') := fun w' => outside_any _ _ false w' ⟨(fun h => by cases h), (fun h => by omega)⟩
  have LB : Hid (∀ w1 : World, _) := fun w1 => lay_box (g.n : Int) (g.k : Int) (g.s : Int) w1
  have LP : Hid (∀ w', Calls Try.prog 29 #[.agg #[.int .i64 (g.n : Int), .int .i64 (g.k : Int), .int .i64 (g.s : Int)], .int .i64 (b : Int)] w' (Says w' (g.placeV b))) := fun w' => lplace g hg w' b h
  obtain ⟨P0, P1, P2, P3, hP⟩ : ∃ P0 P1 P2 P3 : Int, g.placeV b = .agg #[.int .i64 P0, .int .i64 P1, .int .i64 P2, .int .i64 P3] := ⟨_, _, _, _, rfl⟩
  rw [hP] at LP ⊢
  clear hP h
  generalize (b : Int) = b' at *
  clear L BP
  generalize (g.blocks : Int) = R at *
  generalize (g.n : Int) = n at *
  generalize (g.k : Int) = k at *
  generalize (g.s : Int) = s at *
  clear hg
  go_enter Try.func9, Try.ntmps9
  go_wp2_with fail
  rw [← hW]
  clear hW
  refine (CK.out _).mono ?_
  rintro e w1 ⟨rfl, C1⟩
  obtain ⟨LA, LK⟩ := LB.out w1
  clear CK LB
  go_wp2_with fail
  refine (LR.out _).mono ?_
  rintro e w2 ⟨rfl, C2⟩
  have C3 : Hid (Chg [] W w2) := C1.out.trans (LA.out.trans C2.out)
  clear LR
  go_wp2_with fail
  refine (OU.out _).mono ?_
  rintro e w3 ⟨rfl, rfl⟩
  obtain ⟨k0, k1, k2⟩ := LK.out w3 C2.out
  go_wp2_with fail
  refine (LP.out _).mono ?_
  rintro e w4 ⟨rfl, C4⟩
  replace C3 := Lib.hid (C3.out.trans C4.out)
  clear LP C4 k0 k1 k2
  obtain ⟨⟨z0, z1, z2, z3, c0, c1, c2, c3, f0, f1, f2, f3⟩, FW⟩ := KS.out _ C3.out (.int .i64 P0) (.int .i64 P1) (.int .i64 P2) (.int .i64 P3)
  replace FW := Lib.hid FW
  clear OU KS C1 LA LK C2 C3
  go_wp2_with fail
  refine bodyPost_ret (cell_and_tmp rfl _ _ (w.heap.size + 1) _ _ _ _ rfl FW.out.2 Try.underlying28 info_place) rfl ?_
  exact ⟨rfl, FW.out.1⟩

end Go.Proofs.Ytheplbjlfkjncaa
