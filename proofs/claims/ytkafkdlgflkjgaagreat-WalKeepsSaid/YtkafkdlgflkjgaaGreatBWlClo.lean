/-
  The journal's closures: what a call changes in the journal when its operations have gone well. By an AI agent.
-/
import Derived.Test.YtkafkdlgflkjgaaGreatBWlDev
import Derived.Test.YtkafkdlgflkjgaaGreatBWlSpec
import Derived.Test.YtkafkdlgflkjgaaGreatBRgIter
import Derived.Test.YtkafkdlgflkjgaaGreatBRgSide
import Derived.Test.YtkafkdlgflkjgaaGreatBRgLive
import Derived.Deep.RegionHeld3
import Derived.BigQuiet
namespace Go.Proofs.YtkafkdlgflkjgaaGreat
open Go.RowKit Go.Maps

/-- A journal's own cells. -/
def comV (cv : Value) (o : Option (List Nat)) : Value := match o with
 | none => .slice none 0 0
 | some _ => cv
def walV (D R : Nat) (J : Wl.Jn) (cv : Value) : List Value := [.pointer (some ⟨D, 0, none⟩), .int .u64 (J.ep : Int), .pointer (some ⟨R, 0, none⟩), .int .u64 (J.next : Int), .bool J.sure, comV cv J.commit, .int .i64 (J.cost : Int)]

def walB (w : World) (W : Nat) (vs : List Value) : Prop := Blk w W 181 vs

set_option maxHeartbeats 4000000 in
set_option maxRecDepth 100000 in
theorem log1_any (W q0 q1 q2 q3 g : Nat) (n c last : Nat) (cost : Int) (cv v0 v1 v2 v3 v4 v5 v6 : Value) (hcv : ∃ co cn cc, cv = .slice co cn cc) (w : World) (B : walB w W [v0, v1, v2, v3, v4, v5, v6])
 (c0 : w.cell? ⟨q0, 0, none⟩ = some (.pointer (some ⟨W, 0, none⟩))) (c1 : w.cell? ⟨q1, 0, none⟩ = some (.slice (some ⟨g, 0, none⟩) n c)) (c2 : w.cell? ⟨q2, 0, none⟩ = some (.int .i64 (last : Int))) (c3 : w.cell? ⟨q3, 0, none⟩ = some (.int .i64 cost))
 (cg : w.cell? ⟨g, last, none⟩ = some cv) (hl : last < n) (h0 : q0 ≠ W) (h1 : q1 ≠ W) (h2 : q2 ≠ W) (h3 : q3 ≠ W) (h4 : g ≠ W) :
 Calls Tryz.prog 109 #[.pointer (some ⟨q0, 0, none⟩), .pointer (some ⟨q1, 0, none⟩), .pointer (some ⟨q2, 0, none⟩), .pointer (some ⟨q3, 0, none⟩)] w fun e w' => e = .returned (.tuple #[]) ∧ walB w' W [v0, v1, v2, v3, .bool true, cv, .int .i64 cost] ∧ Chg [W] w w' := by
 have f4 : w.frozen? ⟨W, 4, none⟩ = false := Blk.free B 4
 have k4 : w.cell? ⟨W, 4, none⟩ = some v4 := Blk.cell B (j := 4) rfl
 have B1 : walB (w.setCell ⟨W, 4, none⟩ (.bool true)) W [v0, v1, v2, v3, .bool true, v5, v6] := Blk.set B 4 (.bool true)
 have C1 : Chg [W] w (w.setCell ⟨W, 4, none⟩ (.bool true)) := (Chg.refl _ _).setCell (.inl (by simp)) _
 have K : ∀ (p : Addr) (u : Value), w.cell? p = some u → p.block ≠ W → (w.setCell ⟨W, 4, none⟩ (.bool true)).cell? p = some u := fun p u hp hne => (C1.cell (World.block_lt_of_cell? w _ hp) (by simpa using hne)).trans hp
 replace c0 := K _ _ c0 h0
 replace c1 := K _ _ c1 h1
 replace c2 := K _ _ c2 h2
 replace c3 := K _ _ c3 h3
 replace cg := K _ _ cg h4
 have d0 : w.cell? ⟨q0, 0, none⟩ = some (.pointer (some ⟨W, 0, none⟩)) := by
  rw [World.cell?_setCell_other w ⟨W, 4, none⟩ ⟨q0, 0, none⟩ (.bool true) (fun e => h0 (Addr.mk.inj e).1.symm)] at c0
  exact c0
 obtain ⟨wA, hwA⟩ : ∃ wA, wA = (w.setCell ⟨W, 4, none⟩ (.bool true)) := ⟨_, rfl⟩
 rw [← hwA] at B1 C1 c0 c1 c2 c3 cg
 have B5 := Blk.set B1 5 cv
 have C5 : Chg [W] w (wA.setCell ⟨W, 5, none⟩ cv) := C1.setCell (.inl (by simp)) _
 have B56 := Blk.set B5 6 (.int .i64 cost)
 have E1 : Hid (walB ((wA.setCell ⟨W, 5, none⟩ cv).setCell ⟨W, 6, none⟩ (.int .i64 cost)).drew W [v0, v1, v2, v3, .bool true, cv, .int .i64 cost] ∧ Chg [W] w ((wA.setCell ⟨W, 5, none⟩ cv).setCell ⟨W, 6, none⟩ (.int .i64 cost)).drew) := ⟨B56.drew, (C5.setCell (.inl (by simp)) _).drew⟩
 have a5 := Blk.cell B1 (j := 5) rfl
 have g5 := Blk.free B1 5
 have a56 := Blk.cell B5 (j := 6) rfl
 have g56 := Blk.free B5 6
 clear B B1 B5 B56 C1 C5 K
 obtain ⟨co, cn, cc, rfl⟩ := hcv
 go_enter Tryz.func109, Tryz.ntmps109
 go_wp2_with fail
 rw [← hwA]
 clear hwA d0 f4 k4
 go_region
 all_goals go_end0
 all_goals exact ⟨rfl, E1.out⟩

set_option maxHeartbeats 4000000 in
set_option maxRecDepth 100000 in
theorem sync1_any (W q0 : Nat) (v0 v1 v2 v3 v4 v5 v6 : Value) (w : World) (B : walB w W [v0, v1, v2, v3, v4, v5, v6]) (c0 : w.cell? ⟨q0, 0, none⟩ = some (.pointer (some ⟨W, 0, none⟩))) :
 Calls Tryz.prog 112 #[.pointer (some ⟨q0, 0, none⟩)] w fun e w' => e = .returned (.tuple #[]) ∧ walB w' W [v0, v1, v2, v3, .bool true, v5, v6] ∧ Chg [W] w w' := by
 have f4 : w.frozen? ⟨W, 4, none⟩ = false := Blk.free B 4
 have k4 : w.cell? ⟨W, 4, none⟩ = some v4 := Blk.cell B (j := 4) rfl
 have E1 : Hid (walB (w.setCell ⟨W, 4, none⟩ (.bool true)) W [v0, v1, v2, v3, .bool true, v5, v6] ∧ Chg [W] w (w.setCell ⟨W, 4, none⟩ (.bool true))) := ⟨Blk.set B 4 (.bool true), (Chg.refl _ _).setCell (.inl (by simp)) _⟩
 clear B
 go_enter Tryz.func112, Tryz.ntmps112
 go_wp2_with fail
 go_end0
 exact ⟨rfl, E1.out⟩

set_option maxHeartbeats 4000000 in
set_option maxRecDepth 100000 in
theorem seal1_any (W R q0 S t u : Nat) (next cost : Nat) (v0 v1 v4 v5 : Value) (w : World) (B : walB w W [v0, v1, .pointer (some ⟨R, 0, none⟩), .int .u64 (next : Int), v4, v5, .int .i64 (cost : Int)]) (r : Rg S t u) (hR : RingB w R S t u) (hn : cost ≤ S - u) (hx : next < 9223372036854775808) (hWR : W ≠ R)
 (c0 : w.cell? ⟨q0, 0, none⟩ = some (.pointer (some ⟨W, 0, none⟩))) (_h0 : q0 ≠ W) (h1 : q0 ≠ R) :
 Calls Tryz.prog 110 #[.pointer (some ⟨q0, 0, none⟩)] w fun e w' => e = .returned (.tuple #[]) ∧ walB w' W [v0, v1, .pointer (some ⟨R, 0, none⟩), .int .u64 ((next + 1 : Nat) : Int), .bool false, .slice none 0 0, .int .i64 (cost : Int)] ∧ RingB w' R S t (u + cost) ∧ Chg [W, R] w w' := by
 have k2 : w.cell? ⟨W, 2, none⟩ = some (.pointer (some ⟨R, 0, none⟩)) := Blk.cell B (j := 2) rfl
 have k6 : w.cell? ⟨W, 6, none⟩ = some (.int .i64 (cost : Int)) := Blk.cell B (j := 6) rfl
 have TK := Lib.hid (take_ok r w.drew (Blk.drew hR) cost hn)
 obtain ⟨wn1, wn2⟩ : IntKind.u64.wrap ((next : Int) + 1) = ((next + 1 : Nat) : Int) ∧ True := ⟨by rw [show (next : Int) + 1 = ((next + 1 : Nat) : Int) from by omega]; exact IntWalk.u64_in _ (by omega), trivial⟩
 have E0 : Hid (∀ w1, Chg [R] w.drew w1 → w1.cell? ⟨q0, 0, none⟩ = some (.pointer (some ⟨W, 0, none⟩)) ∧ walB w1 W [v0, v1, .pointer (some ⟨R, 0, none⟩), .int .u64 (next : Int), v4, v5, .int .i64 (cost : Int)] ∧ Chg [W, R] w w1) := fun w1 C => by
  have C0 : Chg [R] w w1 := ((Chg.refl _ _).drew).trans C
  exact ⟨(C0.cell (p := ⟨q0, 0, none⟩) (World.block_lt_of_cell? w _ c0) (by simpa using h1)).trans c0, Blk.chg B C0 (by simpa using hWR), C0.mono (by simp)⟩
 have E1 : Hid (∀ w1, walB w1 W [v0, v1, .pointer (some ⟨R, 0, none⟩), .int .u64 (next : Int), v4, v5, .int .i64 (cost : Int)] → RingB w1 R S t (u + cost) → Chg [W, R] w w1 →
  walB (((w1.setCell ⟨W, 3, none⟩ (.int .u64 ((next + 1 : Nat) : Int))).setCell ⟨W, 4, none⟩ (.bool false)).setCell ⟨W, 5, none⟩ (.slice none 0 0)) W [v0, v1, .pointer (some ⟨R, 0, none⟩), .int .u64 ((next + 1 : Nat) : Int), .bool false, .slice none 0 0, .int .i64 (cost : Int)] ∧
  RingB (((w1.setCell ⟨W, 3, none⟩ (.int .u64 ((next + 1 : Nat) : Int))).setCell ⟨W, 4, none⟩ (.bool false)).setCell ⟨W, 5, none⟩ (.slice none 0 0)) R S t (u + cost) ∧ Chg [W, R] w (((w1.setCell ⟨W, 3, none⟩ (.int .u64 ((next + 1 : Nat) : Int))).setCell ⟨W, 4, none⟩ (.bool false)).setCell ⟨W, 5, none⟩ (.slice none 0 0))) := fun w1 b r c =>
  ⟨Blk.set (Blk.set (Blk.set b 3 _) 4 _) 5 _, Blk.other (Blk.other (Blk.other r hWR _) hWR _) hWR _, ((c.setCell (.inl (by simp)) _).setCell (.inl (by simp)) _).setCell (.inl (by simp)) _⟩
 obtain ⟨nx, hnx⟩ : ∃ nx : Int, nx = ((next + 1 : Nat) : Int) := ⟨_, rfl⟩
 rw [← hnx] at E1 wn1 ⊢
 clear B hR hn hx r hnx
 go_enter Tryz.func110, Tryz.ntmps110
 go_wp2_with fail
 go_still_tail 8, (by kernel_rfl)
 change wpList _ _ _ _ _ w.drew
 go_wp2_with fail
 refine TK.out.mono ?_
 rintro e w1 ⟨v, rfl, _, rb, C⟩
 obtain ⟨z0, b1, C1⟩ := E0.out w1 C.out
 have D := Lib.hid (E1.out w1 b1 rb.out C1)
 have z3 := Blk.cell b1 (j := 3) rfl
 have z4 := Blk.cell b1 (j := 4) rfl
 have z5 := Blk.cell b1 (j := 5) rfl
 have g3 := Blk.free b1 3
 have g4 := Blk.free b1 4
 have g5 := Blk.free b1 5
 clear TK E0 E1 rb C b1 C1 k2 k6 c0
 go_wp2_with fail
 go_end0
 exact ⟨rfl, D.out⟩

set_option maxHeartbeats 4000000 in
set_option maxRecDepth 100000 in
theorem pass1_any (W R q0 q1 S t u : Nat) (ep : Int) (v0 v1 v3 v4 v5 v6 : Value) (w : World) (B : walB w W [v0, v1, .pointer (some ⟨R, 0, none⟩), v3, v4, v5, v6]) (r : Rg S t u) (hR : RingB w R S t u) (hWR : W ≠ R)
 (c0 : w.cell? ⟨q0, 0, none⟩ = some (.int .u64 ep)) (c1 : w.cell? ⟨q1, 0, none⟩ = some (.pointer (some ⟨W, 0, none⟩))) (h0 : q1 ≠ W) (h1 : q1 ≠ R) :
 Calls Tryz.prog 169 #[.pointer (some ⟨q0, 0, none⟩), .pointer (some ⟨q1, 0, none⟩)] w fun e w' => e = .returned (.tuple #[]) ∧ walB w' W [v0, .int .u64 ep, .pointer (some ⟨R, 0, none⟩), v3, v4, .slice none 0 0, v6] ∧ RingB w' R S ((t + u) % S) 0 ∧ Chg [W, R] w w' := by
 obtain ⟨wA, hwA⟩ : ∃ wA, wA = w.setCell ⟨W, 1, none⟩ (.int .u64 ep) := ⟨_, rfl⟩
 have f1 : w.frozen? ⟨W, 1, none⟩ = false := Blk.free B 1
 have k1 : w.cell? ⟨W, 1, none⟩ = some v1 := Blk.cell B (j := 1) rfl
 have BA : walB wA W [v0, .int .u64 ep, .pointer (some ⟨R, 0, none⟩), v3, v4, v5, v6] := by rw [hwA]; exact Blk.set B 1 _
 have CA : Chg [W, R] w wA := by rw [hwA]; exact (Chg.refl _ _).setCell (.inl (by simp)) _
 have RA : RingB wA R S t u := by rw [hwA]; exact Blk.other hR hWR _
 have a1 : wA.cell? ⟨q1, 0, none⟩ = some (.pointer (some ⟨W, 0, none⟩)) := (CA.cell (p := ⟨q1, 0, none⟩) (World.block_lt_of_cell? w _ c1) (by simp; exact ⟨h0, h1⟩)).trans c1
 have k2 : wA.cell? ⟨W, 2, none⟩ = some (.pointer (some ⟨R, 0, none⟩)) := Blk.cell BA (j := 2) rfl
 have US := Lib.hid (used_still r wA.drew (Blk.drew RA))
 have GV : Hid (∀ q, Calls Tryz.prog 170 #[.pointer (some ⟨R, 0, none⟩), .int .i64 (u : Int)] (wA.drewN q) fun e w' => ∃ v, e = .returned (.tuple #[v, .int .u16 0]) ∧ RingB w' R S ((t + u) % S) 0 ∧ Chg [R] wA w') := fun q => by
  refine (give_ok r (wA.drewN q) (Blk.drewN RA q) u (Nat.le_refl _)).mono ?_
  rintro e w' ⟨v, rfl, _, rb, C⟩
  rw [Nat.sub_self] at rb
  exact ⟨v, rfl, rb.out, ((Chg.refl _ _).drewN q).trans C.out⟩
 have E0 : Hid (∀ w1, Chg [R] wA w1 → w1.cell? ⟨q1, 0, none⟩ = some (.pointer (some ⟨W, 0, none⟩)) ∧ walB w1 W [v0, .int .u64 ep, .pointer (some ⟨R, 0, none⟩), v3, v4, v5, v6] ∧ Chg [W, R] w w1) := fun w1 C => by
  exact ⟨(C.cell (p := ⟨q1, 0, none⟩) (World.block_lt_of_cell? wA _ a1) (by simpa using h1)).trans a1, Blk.chg BA C (by simpa using hWR), CA.trans (C.mono (by simp))⟩
 have E1 : Hid (∀ w1, walB w1 W [v0, .int .u64 ep, .pointer (some ⟨R, 0, none⟩), v3, v4, v5, v6] → RingB w1 R S ((t + u) % S) 0 → Chg [W, R] w w1 →
  walB (w1.setCell ⟨W, 5, none⟩ (.slice none 0 0)) W [v0, .int .u64 ep, .pointer (some ⟨R, 0, none⟩), v3, v4, .slice none 0 0, v6] ∧ RingB (w1.setCell ⟨W, 5, none⟩ (.slice none 0 0)) R S ((t + u) % S) 0 ∧ Chg [W, R] w (w1.setCell ⟨W, 5, none⟩ (.slice none 0 0))) := fun w1 b r c =>
  ⟨Blk.set b 5 _, Blk.other r hWR _, c.setCell (.inl (by simp)) _⟩
 clear B hR r RA BA CA
 go_enter Tryz.func169, Tryz.ntmps169
 go_wp2_with fail
 rw [← hwA]
 clear hwA f1 k1 c0 c1
 have KA : Hid (∀ n, (wA.drewN n).cell? ⟨q1, 0, none⟩ = some (.pointer (some ⟨W, 0, none⟩)) ∧ (wA.drewN n).cell? ⟨W, 2, none⟩ = some (.pointer (some ⟨R, 0, none⟩))) := fun n => ⟨a1, k2⟩
 go_region_held3 (fun w' : World => w'.cell? ⟨q1, 0, none⟩ = some (.pointer (some ⟨W, 0, none⟩)) ∧ w'.cell? ⟨W, 2, none⟩ = some (.pointer (some ⟨R, 0, none⟩))) (first | exact ⟨a1, k2⟩ | exact KA.out _ | exact K1.out) (first
  | (go_at_call 114; refine US.out.mono ?_; rintro e w1 ⟨rfl, q, rfl⟩)
  | (go_at_call 170; refine (GV.out _).mono ?_; rintro e w1 ⟨v, rfl, rb, C⟩; obtain ⟨z0, b1, C1⟩ := E0.out w1 C; have D := Lib.hid (E1.out w1 b1 rb C1); have z5 := Blk.cell b1 (j := 5) rfl; have g5 := Blk.free b1 5; have K1 := Lib.hid (show w1.cell? ⟨q1, 0, none⟩ = some (.pointer (some ⟨W, 0, none⟩)) ∧ w1.cell? ⟨W, 2, none⟩ = some (.pointer (some ⟨R, 0, none⟩)) from ⟨z0, Blk.cell b1 (j := 2) rfl⟩); clear rb C b1 C1))
 all_goals go_wp2_with fail
 all_goals go_end0
 all_goals exact ⟨rfl, D.out⟩

end Go.Proofs.YtkafkdlgflkjgaaGreat

/-
  The journal: what only reads it, where a sector goes, and how a journal begins. By an AI agent.
-/
namespace Go.Proofs.YtkafkdlgflkjgaaGreat
open Go.RowKit Go.Maps

/-- The commit of the batch that is logged. -/
def comT (cv : Value) (o : Option (List Nat)) : Thing := poolT (o.toList.map fun c => (cv, ub c))

/-- A journal's own block and its ring. -/
def walT (W D R : Nat) (J : Wl.Jn) (cv : Value) : Thing := blkT W 181 (walV D R J cv)

/-- A journal on a bay, side by side with others. -/
abbrev jts (b W D R : Nat) (J : Wl.Jn) (cv : Value) (y : Bay) (F : List Nat) (ts : List Thing) : List Thing := BayT b y F :: devT D b J.slot J.br :: walT W D R J cv :: ringT R J.S J.t J.u :: comT cv J.commit :: ts

theorem Wl.Jn.Fit.rg {J : Wl.Jn} (h : J.Fit) : Rg J.S J.t J.u := ⟨h.lo, h.hi, h.tail, h.used⟩

theorem wlwithin_any (n a b : Int) (w : World) : Calls Tryz.prog 101 #[.int .i64 n, .int .i64 a, .int .i64 b] w fun e w' => e = .returned (.bool (decide (a ≤ n ∧ n ≤ b))) ∧ w' = w := by
 go_enter Tryz.func101, Tryz.ntmps101
 by_cases h1 : a ≤ n
 ·by_cases h2 : n ≤ b
  ·go_wp2_with fail
   go_ret
   exact ⟨by rw [decide_eq_true ⟨h1, h2⟩]; rfl, rfl⟩
  ·go_wp2_with fail
   go_ret
   exact ⟨by rw [decide_eq_false (by omega)]; rfl, rfl⟩
 ·go_wp2_with fail
  go_ret
  exact ⟨by rw [decide_eq_false (by omega)]; rfl, rfl⟩

theorem ringValid_any (n : Int) (w : World) : Calls Tryz.prog 51 #[.int .i64 n] w fun e w' => e = .returned (.bool (decide (5 ≤ n ∧ n ≤ 2048))) ∧ w' = w := by
 go_enter Tryz.func51, Tryz.ntmps51
 go_wp2_with (go_at_call 101; refine (wlwithin_any _ _ _ _).mono ?_; rintro e w1 ⟨rfl, rfl⟩)
 go_ret
 exact ⟨by rw [Bool.decide_and]; rfl, rfl⟩

theorem cost_ok (n : Nat) (w : World) (h1 : 1 ≤ n) (h2 : n ≤ 1023) : Calls Tryz.prog 26 #[.int .i64 (n : Int)] w fun e w' => e = .returned (.int .i64 ((2 * n + 1 : Nat) : Int)) ∧ w' = w := by
 have e1 : decide (1 ≤ (n : Int) ∧ (n : Int) ≤ 1023) = true := decide_eq_true (by omega)
 have WI := Lib.hid (wlwithin_any (n : Int) 1 1023)
 rw [e1] at WI
 obtain ⟨a1, a2⟩ := wrap_in (z := 2 * (n : Int)) (by omega) (by omega)
 obtain ⟨b1, b2⟩ := wrap_in (z := 2 * (n : Int) + 1) (by omega) (by omega)
 have e3 : ((2 * n + 1 : Nat) : Int) = 2 * (n : Int) + 1 := by omega
 rw [e3]
 clear e1 e3 h1 h2
 go_enter Tryz.func26, Tryz.ntmps26
 go_wp2_with (go_at_call 101; refine (WI.out _).mono ?_; rintro e w1 ⟨rfl, rfl⟩)
 go_ret
 exact ⟨rfl, rfl⟩

section
variable {w : World} {W D R : Nat} {J : Wl.Jn} {cv : Value} (B : (walT W D R J cv).P w) (hr : (ringT R J.S J.t J.u).P w) (hf : Rg J.S J.t J.u)
include B hr hf

theorem wused_any : Calls Tryz.prog 35 #[.pointer (some ⟨W, 0, none⟩)] w (Still w (.int .i64 (J.u : Int))) := by
 have c2 : w.cell? ⟨W, 2, none⟩ = some (.pointer (some ⟨R, 0, none⟩)) := Blk.cell B (j := 2) rfl
 have P := Lib.hid (used_still hf w hr)
 clear hf hr B
 go_enter Tryz.func35, Tryz.ntmps35
 go_wp2_with (go_at_call 114; refine P.out.mono ?_; rintro e w' ⟨rfl, q, rfl⟩)
 go_ret
 exact ⟨rfl, q, rfl⟩

omit hr hf in
theorem wnext_any : Calls Tryz.prog 43 #[.pointer (some ⟨W, 0, none⟩)] w (Still w (.int .u64 (J.next : Int))) := by
 have c2 : w.cell? ⟨W, 3, none⟩ = some (.int .u64 (J.next : Int)) := Blk.cell B (j := 3) rfl
 clear B
 go_enter Tryz.func43, Tryz.ntmps43
 go_wp2_with fail
 go_ret
 exact ⟨rfl, 0, rfl⟩

end

set_option maxHeartbeats 4000000 in
set_option maxRecDepth 100000 in
/-- A sector of the batch behind those that are sealed. -/
theorem lay_any {w0 w : World} {ts : List Thing} {b D W R S t u : Nat} {F : List Nat} {s : Int} {io : Wl.Io} {v1 v3 v4 v5 v6 : Value}
 (H : Side w0 w (dts b D s io F (blkT W 181 [.pointer (some ⟨D, 0, none⟩), v1, .pointer (some ⟨R, 0, none⟩), v3, v4, v5, v6] :: ringT R S t u :: ts))) (r : Rg S t u) (hs : I64 s) (i : Nat) (hi : u + i < S)
 (v : Value) (x : List Nat) (hv : Sl w v (ints x)) (hb : Bs x) (hx : x.length ≤ 100000) (hold : ∀ k, v.ownBlock = some k → k ∉ F ∧ k < w.heap.size) (hl : io.1.Low 1000000000) :
 Calls Tryz.prog 106 #[.pointer (some ⟨W, 0, none⟩), .int .i64 (i : Int), v] w fun e w' => e = .returned (.tuple #[]) ∧ ∃ F', Hid (Side w0 w' (dts b D s (Wl.wr s io ((2 + (t + (u + i)) % S : Nat) : Int) x) F' (blkT W 181 [.pointer (some ⟨D, 0, none⟩), v1, .pointer (some ⟨R, 0, none⟩), v3, v4, v5, v6] :: ringT R S t u :: ts))) := by
 have hlo := r.lo
 have hhi := r.hi
 have hm : (t + (u + i)) % S < S := Nat.mod_lt _ (by omega)
 have BW : Blk w W 181 [.pointer (some ⟨D, 0, none⟩), v1, .pointer (some ⟨R, 0, none⟩), v3, v4, v5, v6] := H.get 2 rfl
 have k0 : w.cell? ⟨W, 0, none⟩ = some (.pointer (some ⟨D, 0, none⟩)) := BW.cell (j := 0) rfl
 have k2 : w.cell? ⟨W, 2, none⟩ = some (.pointer (some ⟨R, 0, none⟩)) := BW.cell (j := 2) rfl
 have RB : RingB w R S t u := H.get 3 rfl
 have s1 : Hid (∀ n, Calls Tryz.prog 114 #[.pointer (some ⟨R, 0, none⟩)] (w.drewN n) fun e w' => e = .returned (.int .i64 (u : Int)) ∧ ∃ q, w' = (w.drewN n).drewN q) := fun n => used_still r _ (Blk.drewN RB n)
 have s2 : Hid (∀ n, Calls Tryz.prog 164 #[.pointer (some ⟨R, 0, none⟩), .int .i64 ((u + i : Nat) : Int)] (w.drewN n) fun e w' => e = .returned (.tuple #[.int .i64 (((t + (u + i)) % S : Nat) : Int), .int .u16 0]) ∧ ∃ q, w' = (w.drewN n).drewN q) := fun n => at_still r _ (Blk.drewN RB n) (u + i) hi
 have WR : Hid (∀ n, Calls Tryz.prog 52 #[.pointer (some ⟨D, 0, none⟩), .int .i64 ((2 + (t + (u + i)) % S : Nat) : Int), v] (w.drewN n) fun e w' => e = .returned (.tuple #[]) ∧ ∃ F', Hid (Side w0 w' (dts b D s (Wl.wr s io ((2 + (t + (u + i)) % S : Nat) : Int) x) F' (blkT W 181 [.pointer (some ⟨D, 0, none⟩), v1, .pointer (some ⟨R, 0, none⟩), v3, v4, v5, v6] :: ringT R S t u :: ts)))) := fun n =>
  dvwrite_any (H.quiet ((Chg.refl [] w).drewN n)) hs _ ⟨by omega, by omega⟩ v x (hv.chg ((Chg.refl [] w).drewN n) (fun _ _ => by simp)) hb hx hold hl
 obtain ⟨vo, vc, rfl⟩ := hv.slice
 rw [ints_length] at *
 obtain ⟨P, hP⟩ : ∃ P, P = (t + (u + i)) % S := ⟨_, rfl⟩
 rw [← hP] at s2 WR hm ⊢
 obtain ⟨a1, a2⟩ := wrap_in (z := (u : Int) + (i : Int)) (by omega) (by omega)
 have a3 : (u : Int) + (i : Int) = ((u + i : Nat) : Int) := by omega
 obtain ⟨b1, b2⟩ := wrap_in (z := 2 + (P : Int)) (by omega) (by omega)
 have b3 : 2 + (P : Int) = ((2 + P : Nat) : Int) := by omega
 obtain ⟨N, hN⟩ : ∃ N, N = ((u + i : Nat) : Int) := ⟨_, rfl⟩
 rw [← hN] at s2 a3
 rw [a3] at a1 a2
 obtain ⟨M, hM⟩ : ∃ M, M = ((2 + P : Nat) : Int) := ⟨_, rfl⟩
 rw [← hM] at WR b3
 rw [b3] at b1 b2
 rw [show ((2 + P : Nat) : Int) = M from hM.symm]
 clear H r hs hi hv hb hx hold hl BW RB hlo hhi hm hP hN hM
 generalize (u : Int) = U at *
 generalize (i : Int) = I at *
 generalize (P : Int) = PP at *
 go_enter Tryz.func106, Tryz.ntmps106
 go_wp2_with fail
 go_quiet (first | (go_at_call 114; exact Calls.quiet_of (s1.out _)) | (go_at_call 164; exact Calls.quiet_of (s2.out _)))
 clear s1 s2
 go_wp2_with (go_at_call 52; refine (WR.out _).mono ?_; rintro e w1 ⟨rfl, F', h⟩; clear WR)
 go_end0
 exact ⟨rfl, F', h⟩

end Go.Proofs.YtkafkdlgflkjgaaGreat

/-
  The journal's calls: Seal, Sync, Reclaim, Renew. By an AI agent.
-/
namespace Go.Proofs.YtkafkdlgflkjgaaGreat
open Go.RowKit Go.Maps

/-- Things that are remade in their own blocks. -/
theorem Side.remade {w0 w w' : World} {olds news ts : List Thing} (H : Side w0 w (olds ++ ts)) (c : Chg (olds.flatMap (·.F)) w w') (hF : news.map (·.F) = olds.map (·.F)) (hP : ∀ t ∈ news, t.P w') : Side w0 w' (news ++ ts) := by
 refine Side.swap (olds := olds) (bs := news) H c (fun k hk => .inl ?_) hP (fun b hb k hk => .inl ?_) ?_
 ·obtain ⟨a, ha, hk⟩ := List.mem_flatMap.1 hk
  exact ⟨a, ha, hk⟩
 ·have h1 : b.F ∈ olds.map (·.F) := by rw [← hF]; exact List.mem_map_of_mem hb
  obtain ⟨a, ha, e⟩ := List.mem_map.1 h1
  exact ⟨a, ha, by rw [e]; exact hk⟩
 ·have h1 : (olds.map (·.F)).Pairwise (fun A B => ∀ k ∈ A, k ∉ B) := List.pairwise_map.2 (List.pairwise_append.1 H.apart).1
  rw [← hF] at h1
  exact (List.pairwise_map (f := fun x : Thing => x.F)).1 h1

set_option maxHeartbeats 2000000 in
theorem then_gen {w0 w1 : World} {ts : List Thing} {b D W R S t u S' t' u' br : Nat} {s : Int} {y : Bay} {F : List Nat} {vs vs' : List Value}
 (H : Side w0 w1 (BayT b y F :: devT D b s br :: blkT W 181 vs :: ringT R S t u :: ts)) (fn : Nat) (caps : Array Value) (hen : ∀ (args : Array Value) (w : World), (callFunc fn args).run Tryz.prog w = .ok (.enter fn args) w)
 (hfn : br = 0 → ∀ w2, Chg [] w1 w2 → Calls Tryz.prog fn caps w2 (fun e w' => e = .returned (.tuple #[]) ∧ walB w' W vs' ∧ RingB w' R S' t' u' ∧ Chg [W, R] w2 w')) :
 Calls Tryz.prog 108 #[.pointer (some ⟨D, 0, none⟩), .func (.func fn) #[] caps] w1 fun e w' => e = .returned (.int .u16 ((br : Nat) : Int)) ∧
  ((br ≠ 0 ∧ Hid (Side w0 w' (BayT b y F :: devT D b s br :: blkT W 181 vs :: ringT R S t u :: ts))) ∨ (br = 0 ∧ Hid (Side w0 w' (BayT b y F :: devT D b s 0 :: blkT W 181 vs' :: ringT R S' t' u' :: ts)))) := by
 have B : Blk w1 D 115 (devV b s br) := H.get 1 rfl
 have hDW : D ≠ W := fun e => (H.offAt 1 2 rfl rfl (by decide)) D (by simp [devT, blkT]) (by simp [blkT, e])
 have hDR : D ≠ R := fun e => (H.offAt 1 3 rfl rfl (by decide)) D (by simp [devT, blkT]) (by simp [ringT, e])
 refine (then_any D b s br w1 B fn caps hen (fun w' => br = 0 ∧ walB w' W vs' ∧ RingB w' R S' t' u' ∧ Chg [W, R] w1 w') (fun w' h => ?_) (fun h0 w2 c => ?_)).mono ?_
 ·obtain ⟨rfl, _, _, c⟩ := h
  exact B.chg c (by simp; exact ⟨hDW, hDR⟩)
 ·refine (hfn h0 w2 c).mono ?_
  rintro e w' ⟨h1, h2, h3, h4⟩
  exact ⟨h1, h0, h2, h3, (c.mono (by simp)).trans h4⟩
 ·rintro e w' ⟨h1, h2⟩
  refine ⟨h1, ?_⟩
  rcases h2 with ⟨h0, c⟩ | ⟨rfl, w2, ⟨_, q1, q2, c⟩, rfl⟩
  ·exact .inl ⟨h0, H.quiet c⟩
  ·refine .inr ⟨rfl, ?_⟩
   have hWD : W ≠ D := fun e => hDW e.symm
   have hRD : R ≠ D := fun e => hDR e.symm
   have BD : Blk w2 D 115 (devV b s 0) := B.chg c (by simp; exact ⟨hDW, hDR⟩)
   have H2 : Side w0 w1 ([devT D b s 0, blkT W 181 vs, ringT R S t u] ++ (BayT b y F :: ts)) := H.perm (by
    show ([BayT b y F] ++ ([devT D b s 0, blkT W 181 vs, ringT R S t u] ++ ts)).Perm ([devT D b s 0, blkT W 181 vs, ringT R S t u] ++ ([BayT b y F] ++ ts))
    rw [← List.append_assoc, ← List.append_assoc]
    exact List.Perm.append_right _ List.perm_append_comm)
   have H3 := H2.remade (w' := w2.setCell ⟨D, 2, none⟩ (.int .u16 0)) (news := [devT D b s 0, blkT W 181 vs', ringT R S' t' u']) (by
    show Chg ([D] ++ ([W] ++ ([R] ++ []))) w1 _
    exact (c.mono (by intro k hk; simp at hk ⊢; rcases hk with rfl | rfl <;> simp)).setCell (.inl (by simp)) _) rfl (fun t ht => by
    rcases List.mem_cons.1 ht with rfl | ht
    ·exact BD.set 2 (.int .u16 0)
    ·rcases List.mem_cons.1 ht with rfl | ht
     ·exact Blk.other q1 hDW _
     ·rw [List.mem_singleton.1 ht]
      exact Blk.other q2 hDR _)
   exact H3.perm (by
    show ([devT D b s 0, blkT W 181 vs', ringT R S' t' u'] ++ ([BayT b y F] ++ ts)).Perm ([BayT b y F] ++ ([devT D b s 0, blkT W 181 vs', ringT R S' t' u'] ++ ts))
    rw [← List.append_assoc, ← List.append_assoc]
    exact List.Perm.append_right _ List.perm_append_comm)

/-- What was logged is forgotten. -/
theorem Side.forget {w0 w : World} {a b c d : Thing} {cv cv' : Value} {o : Option (List Nat)} {ts : List Thing} (H : Side w0 w (a :: b :: c :: d :: comT cv o :: ts)) : Side w0 w (a :: b :: c :: d :: comT cv' none :: ts) := by
 have h1 : Side w0 w (a :: b :: c :: d :: ts) := H.sub (.cons_cons _ (.cons_cons _ (.cons_cons _ (.cons_cons _ (.cons _ (List.Sublist.refl _))))))
 have h2 : Side w0 w (comT cv' none :: a :: b :: c :: d :: ts) := h1.add (Chg.refl _ _) (show Pool w [] from ⟨fun p hp => (by cases hp), List.Pairwise.nil⟩) (fun k hk => by cases hk)
 exact h2.perm (by
  show ([comT cv' none] ++ ([a, b, c, d] ++ ts)).Perm ([a, b, c, d] ++ ([comT cv' none] ++ ts))
  rw [← List.append_assoc, ← List.append_assoc]
  exact List.Perm.append_right _ List.perm_append_comm)

/-- A block more, behind the journal. -/
theorem Side.behind {w0 w : World} {a b c d e : Thing} {ts : List Thing} (H : Side w0 w (a :: b :: c :: d :: e :: ts)) (ty : TypeId) (vs : List Value) : Side w0 (w.alloc (.cells vs.toArray ty)) (a :: b :: c :: d :: e :: blkT w.heap.size ty vs :: ts) :=
 (H.newBlk ty vs).perm (by
  show ([blkT w.heap.size ty vs] ++ ([a, b, c, d, e] ++ ts)).Perm ([a, b, c, d, e] ++ ([blkT w.heap.size ty vs] ++ ts))
  rw [← List.append_assoc, ← List.append_assoc]
  exact List.Perm.append_right _ List.perm_append_comm)

theorem Side.less {w0 w : World} {a b c d e f : Thing} {ts : List Thing} (H : Side w0 w (a :: b :: c :: d :: e :: f :: ts)) : Side w0 w (a :: b :: c :: d :: e :: ts) :=
 H.sub (.cons_cons _ (.cons_cons _ (.cons_cons _ (.cons_cons _ (.cons_cons _ (.cons _ (List.Sublist.refl _)))))))

/-- The journal's answer behind its operations. -/
def Ans (w0 : World) (b W D R : Nat) (cv : Value) (ts : List Thing) (o : Wl.Out) (e : Ending) (w' : World) : Prop := e = .returned (.int .u16 o.err) ∧ ∃ F', Hid (Side w0 w' (jts b W D R o.jn cv o.bay F' ts))

theorem com_row {w0 w : World} {b W D R : Nat} {J : Wl.Jn} {cv : Value} {y : Bay} {F : List Nat} {ts : List Thing} (H : Side w0 w (jts b W D R J cv y F ts)) {c : List Nat} (hc : J.commit = some c) (hl : c.length = 128) : Sl w cv (ints c) ∧ (∃ g n k, cv = .slice (some g) n k) ∧ ∀ k, cv.ownBlock = some k → k ∉ F ∧ k < w.heap.size := by
 have hp : Pool w [(cv, ub c)] := by
  have := H.get 4 rfl
  rw [hc] at this
  exact this
 obtain ⟨ty, ho⟩ := hp.row _ List.mem_cons_self
 have hu : (ub c).length = c.length := by unfold ub; rw [List.length_map, ints_length]
 rw [hu] at ho
 refine ⟨Sl.owned ho, ?_, fun k hk => ⟨fun hm => ?_, (ho.lt k hk).2⟩⟩
 ·rcases ho.2 with ⟨h1, _⟩ | ⟨g, cap, cur, hv, _⟩
  ·omega
  ·exact ⟨_, _, _, hv⟩
 ·refine (H.offAt 4 0 rfl rfl (by decide)) k ?_ hm
  rw [hc]
  show k ∈ rowsOf [(cv, ub c)]
  rw [rowsOf_cons]
  exact List.mem_append_left _ (by simp [hk])

theorem enters_sync1 (args : Array Value) (w : World) : (callFunc 112 args).run Tryz.prog w = .ok (.enter 112 args) w := by
 have h1 : (Tryz.f112.name == "runtime.NumGoroutine") = false := by kernel_rfl
 have h2 : Tryz.f112.body.isNone = false := by kernel_rfl
 have h3 : ¬ Tryz.f112.name = "runtime.NumGoroutine" := by simpa using h1
 have h4 : ¬ Tryz.f112.body = none := fun e => by rw [e] at h2; cases h2
 simp [callFunc, go_sem, Tryz.func112, h3, h4]

theorem enters_seal1 (args : Array Value) (w : World) : (callFunc 110 args).run Tryz.prog w = .ok (.enter 110 args) w := by
 have h1 : (Tryz.f110.name == "runtime.NumGoroutine") = false := by kernel_rfl
 have h2 : Tryz.f110.body.isNone = false := by kernel_rfl
 have h3 : ¬ Tryz.f110.name = "runtime.NumGoroutine" := by simpa using h1
 have h4 : ¬ Tryz.f110.body = none := fun e => by rw [e] at h2; cases h2
 simp [callFunc, go_sem, Tryz.func110, h3, h4]

theorem enters_pass1 (args : Array Value) (w : World) : (callFunc 169 args).run Tryz.prog w = .ok (.enter 169 args) w := by
 have h1 : (Tryz.f169.name == "runtime.NumGoroutine") = false := by kernel_rfl
 have h2 : Tryz.f169.body.isNone = false := by kernel_rfl
 have h3 : ¬ Tryz.f169.name = "runtime.NumGoroutine" := by simpa using h1
 have h4 : ¬ Tryz.f169.body = none := fun e => by rw [e] at h2; cases h2
 simp [callFunc, go_sem, Tryz.func169, h3, h4]

set_option maxHeartbeats 4000000 in
set_option maxRecDepth 100000 in
theorem wsync_any {w0 w : World} {b W D R : Nat} {J : Wl.Jn} {cv : Value} {y : Bay} {F : List Nat} {ts : List Thing} (H : Side w0 w (jts b W D R J cv y F ts)) (hs : I64 J.slot) (hl : y.Low 1000000000) :
 Calls Tryz.prog 32 #[.pointer (some ⟨W, 0, none⟩)] w (Ans w0 b W D R cv ts (Wl.syncJ y J)) := by
 obtain ⟨wB, hwB⟩ : ∃ wB, wB = w.alloc (.cells #[.pointer (some ⟨W, 0, none⟩)] 32) := ⟨_, rfl⟩
 have HB : Side w0 wB (jts b W D R J cv y F (blkT w.heap.size 32 [.pointer (some ⟨W, 0, none⟩)] :: ts)) := by rw [hwB]; exact H.behind _ _
 have q0 : wB.cell? ⟨w.heap.size, 0, none⟩ = some (.pointer (some ⟨W, 0, none⟩)) := (HB.get 5 rfl : Blk _ _ _ _).cell (j := 0) rfl
 have BW : Blk wB W 181 (walV D R J cv) := HB.get 2 rfl
 have k0 : wB.cell? ⟨W, 0, none⟩ = some (.pointer (some ⟨D, 0, none⟩)) := BW.cell (j := 0) rfl
 have k4 : wB.cell? ⟨W, 4, none⟩ = some (.bool J.sure) := BW.cell (j := 4) rfl
 cases hsu : J.sure with
 | true =>
   have e : Wl.syncJ y J = ⟨0, y, J⟩ := by unfold Wl.syncJ; rw [if_pos hsu]
   rw [e]
   rw [hsu] at k4
   have E : Hid (∃ F', Side w0 wB (jts b W D R J cv y F' ts)) := ⟨F, HB.less⟩
   rw [hwB] at q0 k0 k4 E
   clear H HB hs hl BW e hsu hwB
   go_enter Tryz.func32, Tryz.ntmps32
   go_wp2_with fail
   go_ret
   exact ⟨rfl, E.out⟩
 | false =>
   have e : Wl.syncJ y J = Wl.ends (Wl.fl J.slot (y, J.br)) J { J with sure := true } := by unfold Wl.syncJ; rw [if_neg (by rw [hsu]; decide)]
   rw [e]
   rw [hsu] at k4
   obtain ⟨io, hio⟩ : ∃ io, io = Wl.fl J.slot (y, J.br) := ⟨_, rfl⟩
   have FL := Lib.hid (dvflush_any (io := (y, J.br)) HB hs hl)
   rw [← hio] at FL ⊢
   have TH : Hid (∀ w1 F', Side w0 w1 (dts b D J.slot io F' (walT W D R J cv :: ringT R J.S J.t J.u :: comT cv J.commit :: blkT w.heap.size 32 [.pointer (some ⟨W, 0, none⟩)] :: ts)) →
    w1.cell? ⟨w.heap.size, 0, none⟩ = some (.pointer (some ⟨W, 0, none⟩)) ∧ w1.cell? ⟨W, 0, none⟩ = some (.pointer (some ⟨D, 0, none⟩)) ∧
    Calls Tryz.prog 108 #[.pointer (some ⟨D, 0, none⟩), .func (.func 112) #[] #[.pointer (some ⟨w.heap.size, 0, none⟩)]] w1 (Ans w0 b W D R cv ts (Wl.ends io J { J with sure := true }))) := fun w1 F' h => by
    have B1 : Blk w1 W 181 (walV D R J cv) := h.get 2 rfl
    have RB1 : RingB w1 R J.S J.t J.u := h.get 3 rfl
    have z0 : w1.cell? ⟨w.heap.size, 0, none⟩ = some (.pointer (some ⟨W, 0, none⟩)) := (h.get 5 rfl : Blk _ _ _ _).cell (j := 0) rfl
    have hRW : R ≠ W := fun e => (h.offAt 3 2 rfl rfl (by decide)) R (by simp [ringT]) (by simp [walT, blkT, e])
    refine ⟨z0, B1.cell (j := 0) rfl, ?_⟩
    refine (then_gen (vs' := walV D R { J with sure := true } cv) (S' := J.S) (t' := J.t) (u' := J.u) h 112 _ enters_sync1 (fun h0 w2 c => ?_)).mono ?_
    ·refine (sync1_any W _ _ _ _ _ _ _ _ w2 (B1.chg c (by simp)) ((c.cell (World.block_lt_of_cell? w1 _ z0) (by simp)).trans z0)).mono ?_
     rintro e w' ⟨h1, h2, h3⟩
     exact ⟨h1, h2, (Blk.chg RB1 c (by simp)).chg h3 (by simpa using hRW), h3.mono (by simp)⟩
    ·rintro e w' ⟨h1, ⟨h0, h2⟩ | ⟨h0, h2⟩⟩
     ·unfold Wl.ends
      rw [if_neg h0]
      exact ⟨h1, F', h2.out.less⟩
     ·unfold Wl.ends
      rw [if_pos h0]
      rw [h0] at h1
      exact ⟨h1, F', h2.out.less⟩
   rw [hwB] at q0 k0 k4 FL
   clear H HB hs hl BW e hsu hwB hio
   have hmf : ∀ (fn : Fn) (first cap : Array Value) (w : World), (Instr.makeFunc fn first cap).run Tryz.prog w = .ok (.func fn first cap) w := fun _ _ _ _ => rfl
   go_enter Tryz.func32, Tryz.ntmps32
   go_wp2_with (first
    | (go_at_call 107; refine FL.out.mono ?_; rintro e w1 ⟨rfl, F', h⟩; obtain ⟨z0, z1, TN⟩ := TH.out w1 F' h.out; replace TN := Lib.hid TN; clear FL TH h q0 k0 k4)
    | (go_at_call 108; refine TN.out.mono ?_; rintro e w2 ⟨rfl, A⟩; replace A := Lib.hid A; clear TN z0 z1))
   go_ret
   exact ⟨rfl, A.out⟩

end Go.Proofs.YtkafkdlgflkjgaaGreat
