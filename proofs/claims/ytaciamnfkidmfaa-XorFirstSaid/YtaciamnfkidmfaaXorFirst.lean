/-
  XorFirst walked. By an AI agent.
-/
import Derived.Test.YtaciamnfkidmfaaXorLaw
namespace Go.Proofs.Ytaciamnfkidmfaa
open Go.RowKit

theorem firstFrom_comm : ∀ (i : Nat) (a b : List Nat), firstFrom i a b = firstFrom i b a
  | _, [], [] => rfl
  | _, [], _ :: _ => rfl
  | _, _ :: _, [] => rfl
  | i, x :: a, y :: b => by
    rw [firstFrom, firstFrom]
    by_cases h : x = y
    · rw [if_pos h, if_pos h.symm, firstFrom_comm (i + 1) a b]
    · rw [if_neg h, if_neg (fun e => h e.symm)]

theorem firstFrom_self : ∀ (i : Nat) (a : List Nat), firstFrom i a a = -1
  | _, [] => rfl
  | i, x :: a => by rw [firstFrom, if_pos rfl, firstFrom_self (i + 1) a]

set_option maxHeartbeats 2000000 in
set_option maxRecDepth 100000 in
theorem first_walk (v u : Value) (xs ys : List Int) (w : World) (hx : Sl w v xs) (hy : Sl w u ys) (hbx : By xs) (hby : By ys) (hx1 : xs.length ≤ 140737488355328) (hy1 : ys.length ≤ 140737488355328) :
    Calls Try.prog 6 #[v, u] w fun e w' => e = .returned (.bool true) ∧ Chg [] w w' := by
  obtain ⟨ao, c, rfl⟩ := hx.slice
  obtain ⟨bo, d, rfl⟩ := hy.slice
  have HX := Lib.hid hx
  have HY := Lib.hid hy
  have BX := Lib.hid hbx
  have BY := Lib.hid hby
  clear hx hy hbx hby
  have FC : Hid (first (nats ys) (nats xs) = first (nats xs) (nats ys)) := firstFrom_comm 0 _ _
  have FS : Hid (first (nats xs) (nats xs) = -1) := firstFrom_self 0 _
  go_enter Try.func6, Try.ntmps6
  go_wp2_with fail
  refine (lent_any _ xs w HX.out (by omega)).mono ?_
  rintro e w1 ⟨g1, rfl, B1, D1, h1⟩
  replace B1 := Lib.hid B1
  replace D1 := Lib.hid D1
  go_wp2_with fail
  refine (lent_any _ ys w1 (HY.out.chgNil D1.out) (by omega)).mono ?_
  rintro e w2 ⟨g2, rfl, B2, D2, h2⟩
  replace B2 := Lib.hid B2
  replace B1 := Lib.hid (B1.out.chg D2 (by simp))
  replace D1 := Lib.hid (D1.out.trans D2)
  clear D2 h1 h2
  go_wp2_with fail
  refine (first_any _ _ xs ys w2 (Blk.sl B1.out) (Blk.sl B2.out) BX.out BY.out hx1 hy1).mono ?_
  rintro e w3 ⟨rfl, D⟩
  replace B2 := Lib.hid (B2.out.chg D.out (by simp))
  replace B1 := Lib.hid (B1.out.chg D.out (by simp))
  replace D1 := Lib.hid (D1.out.trans D.out)
  clear D
  go_wp2_with fail
  refine (first_any _ _ ys xs w3 (Blk.sl B2.out) (Blk.sl B1.out) BY.out BX.out hy1 hx1).mono ?_
  rintro e w4 ⟨rfl, D⟩
  rw [FC.out]
  replace B2 := Lib.hid (B2.out.chg D.out (by simp))
  replace B1 := Lib.hid (B1.out.chg D.out (by simp))
  replace D1 := Lib.hid (D1.out.trans D.out)
  clear D FC
  go_wp2_with fail
  refine (whole_any g1 _ xs w4 B1.out (HX.out.chgNil D1.out) (by omega)).mono ?_
  rintro e w5 ⟨rfl, q, hw⟩
  have C : Hid (Chg [] w4 w5) := by rw [hw]; exact (Chg.refl [] _).drewN _
  clear hw
  replace B2 := Lib.hid (B2.out.chg C.out (by simp))
  replace B1 := Lib.hid (B1.out.chg C.out (by simp))
  replace D1 := Lib.hid (D1.out.trans C.out)
  clear C
  go_wp2_with fail
  refine (whole_any g2 _ ys w5 B2.out (HY.out.chgNil D1.out) (by omega)).mono ?_
  rintro e w6 ⟨rfl, q, hw⟩
  have C : Hid (Chg [] w5 w6) := by rw [hw]; exact (Chg.refl [] _).drewN _
  clear hw
  replace B1 := Lib.hid (B1.out.chg C.out (by simp))
  replace D1 := Lib.hid (D1.out.trans C.out)
  clear C B2
  go_wp2_with fail
  refine (known_any w6).mono ?_
  rintro e w7 ⟨rfl, D⟩
  replace B1 := Lib.hid (B1.out.chg D.out (by simp))
  replace D1 := Lib.hid (D1.out.trans D.out)
  clear D
  go_wp2_with fail
  refine (refFirst_any _ _ xs ys w7 (HX.out.chgNil D1.out) (HY.out.chgNil D1.out) BX.out BY.out hx1 hy1).mono ?_
  rintro e w8 ⟨rfl, D⟩
  replace B1 := Lib.hid (B1.out.chg D.out (by simp))
  replace D1 := Lib.hid (D1.out.trans D.out)
  clear D
  go_wp2_with fail
  refine (first_any _ _ xs xs w8 (Blk.sl B1.out) (Blk.sl B1.out) BX.out BX.out hx1 hx1).mono ?_
  rintro e w9 ⟨rfl, D⟩
  rw [FS.out]
  replace D1 := Lib.hid (D1.out.trans D.out)
  go_wp2_with fail
  go_ret
  exact ⟨rfl, D1.out⟩

end Go.Proofs.Ytaciamnfkidmfaa
