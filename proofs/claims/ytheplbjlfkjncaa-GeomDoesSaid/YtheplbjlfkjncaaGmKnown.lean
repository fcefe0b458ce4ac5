/-
  'known' of the layout of blocks. By an AI agent.
-/
import Derived.Test.YtheplbjlfkjncaaGmFun
import Derived.Test.YtheplbjlfkjncaaGSameMore
namespace Go.Proofs.Ytheplbjlfkjncaa
open Go.RowKit

/-- A block that was made behind them. -/
theorem Side.box {w0 W : World} {ts : List Thing} (h : Side w0 W ts) (vs : List Value) (e : TypeId) : Side w0 (W.alloc (.cells vs.toArray e)) (blkT W.heap.size e vs :: ts) :=
  h.add ((Chg.refl _ _).alloc _) (Blk.made W vs e) (fun k hk => by rw [List.mem_singleton.1 hk]; exact Nat.le_refl _)

def gmEx : Gm := ⟨4, 2, 5⟩
theorem gmEx_ok : gmEx.Ok := ⟨by decide, by decide, by decide⟩

set_option maxHeartbeats 2000000 in
set_option maxRecDepth 100000 in
theorem known_any (w : World) : Calls Try.prog 23 #[] w (Says w (.bool true)) := by
  have H0 : Hid (Side w (w.alloc (.cells #[.int .i64 4, .int .i64 2, .int .i64 5] 23)) [blkT w.heap.size 23 [.int .i64 4, .int .i64 2, .int .i64 5]]) := (Side.nil (Chg.refl _ _)).box _ _
  have OF : Hid (∀ w', Calls Try.prog 9 #[.agg #[.int .i64 4, .int .i64 2, .int .i64 5], .int .i64 29] w' (Says w' (.tuple #[.agg #[.int .i64 4, .int .i64 9, .int .i64 2, .int .i64 3], .int .u16 0]))) := fun w' => gof_in gmEx gmEx_ok w' 29 (by decide)
  have AT : Hid (∀ w', Calls Try.prog 12 #[.agg #[.int .i64 4, .int .i64 2, .int .i64 5], .int .i64 0, .int .i64 2] w' (Says w' (.tuple #[.int .i64 8, .bool false, .int .u16 0]))) := fun w' => gat_in gmEx gmEx_ok w' 0 2 (by decide) (by decide) (by decide)
  have ME : Hid (∀ w', Calls Try.prog 11 #[.agg #[.int .i64 4, .int .i64 2, .int .i64 5], .int .i64 2] w' (SaysList w' [3, 0, 1] (.int .u16 0))) := fun w' => gmembers_in gmEx gmEx_ok w' 2 (by decide)
  have BL : Hid (∀ w', Calls Try.prog 20 #[.agg #[.int .i64 4, .int .i64 2, .int .i64 5]] w' (Says w' (.int .i64 30))) := fun w' => gblocks_good gmEx gmEx_ok w'
  go_enter Try.func23, Try.ntmps23
  go_wp2_with fail
  refine (OF.out _).mono ?_
  rintro e w1 ⟨rfl, C⟩
  have H1 := Lib.hid ((H0.out.quiet C.out).box [.int .i64 4, .int .i64 9, .int .i64 2, .int .i64 3] 28)
  have H2 := Lib.hid (H0.out.quiet C.out)
  have c0 := (H2.out.get 0 rfl : Blk _ _ _ _).cell (j := 0) rfl
  have c1 := (H2.out.get 0 rfl : Blk _ _ _ _).cell (j := 1) rfl
  have c2 := (H2.out.get 0 rfl : Blk _ _ _ _).cell (j := 2) rfl
  have hz : w.heap.size < w1.heap.size := (H2.out.get 0 rfl : Blk _ _ _ _).lt
  clear OF H0 C
  go_wp2_with fail
  refine (AT.out _).mono ?_
  rintro e w2 ⟨rfl, C⟩
  replace H1 := Lib.hid (H1.out.quiet C.out)
  clear C AT c0 c1 c2 H2 hz
  obtain ⟨P, hP⟩ : ∃ P, P = w1.heap.size := ⟨_, rfl⟩
  rw [← hP] at H1 ⊢
  clear hP
  have c0 := (H1.out.get 1 rfl : Blk _ _ _ _).cell (j := 0) rfl
  have c1 := (H1.out.get 1 rfl : Blk _ _ _ _).cell (j := 1) rfl
  have c2 := (H1.out.get 1 rfl : Blk _ _ _ _).cell (j := 2) rfl
  go_wp2_with fail
  refine (ME.out _).mono ?_
  rintro e w3 ⟨u, rfl, O, C⟩
  replace H1 := Lib.hid (H1.out.quiet C.out)
  clear C ME c0 c1 c2
  have c0 := (H1.out.get 1 rfl : Blk _ _ _ _).cell (j := 0) rfl
  have c1 := (H1.out.get 1 rfl : Blk _ _ _ _).cell (j := 1) rfl
  have c2 := (H1.out.get 1 rfl : Blk _ _ _ _).cell (j := 2) rfl
  have p0 := (H1.out.get 0 rfl : Blk _ _ _ _).cell (j := 0) rfl
  have p1 := (H1.out.get 0 rfl : Blk _ _ _ _).cell (j := 1) rfl
  have p2 := (H1.out.get 0 rfl : Blk _ _ _ _).cell (j := 2) rfl
  have p3 := (H1.out.get 0 rfl : Blk _ _ _ _).cell (j := 3) rfl
  obtain ⟨uo, uc, rfl⟩ := owns_slice O.out
  go_wp2_with fail
  have H4 := Lib.hid (H1.out.box [.int .i64 3, .int .i64 0, .int .i64 1] 3)
  have O4 := Lib.hid (owns_chg O.out ((Chg.refl [] w3).alloc (.cells #[.int .i64 3, .int .i64 0, .int .i64 1] 3)) (by simp))
  have B4 : Hid (Blk (w3.alloc (.cells #[.int .i64 3, .int .i64 0, .int .i64 1] 3)) w3.heap.size 3 [.int .i64 3, .int .i64 0, .int .i64 1]) := H4.out.get 0 rfl
  refine (same_ints _ _ [3, 0, 1] _ (RdV.owned (n := 3) O4.out) (.inr ⟨w3.heap.size, 0, 3, rfl, B4.out.lt, fun j u hj => by rw [Nat.zero_add]; exact B4.out.cell hj⟩) (by decide)).mono ?_
  rintro e w5 ⟨rfl, q, rfl⟩
  replace H4 := Lib.hid (H4.out.quiet ((Chg.refl _ _).drewN q))
  generalize World.drewN (w3.alloc (.cells #[.int .i64 3, .int .i64 0, .int .i64 1] 3)) q = w6 at *
  clear c0 c1 c2 p0 p1 p2 p3 O O4 B4
  have c0 := (H4.out.get 2 rfl : Blk _ _ _ _).cell (j := 0) rfl
  have c1 := (H4.out.get 2 rfl : Blk _ _ _ _).cell (j := 1) rfl
  have c2 := (H4.out.get 2 rfl : Blk _ _ _ _).cell (j := 2) rfl
  go_wp2_with fail
  refine (BL.out _).mono ?_
  rintro e w7 ⟨rfl, C⟩
  have F := Lib.hid (H4.out.chg.trans C.out)
  clear c0 c1 c2 C H4 BL
  go_wp2_with fail
  go_ret
  exact ⟨rfl, F⟩

end Go.Proofs.Ytheplbjlfkjncaa
