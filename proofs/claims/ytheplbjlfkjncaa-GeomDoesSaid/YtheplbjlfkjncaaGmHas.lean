/-
  The program's layout of blocks: a geometry that has such a row. By an AI agent.
-/
import Derived.Test.YtheplbjlfkjncaaGmLay
namespace Go.Proofs.Ytheplbjlfkjncaa
open Go.RowKit

/-- A struct of three numbers that is filled: its own block, and the rest as it was. -/
theorem fill3 {w W : World} {B : Nat} {e : TypeId} {vs : List Value} (hl : vs.length = 3) (CA : Chg [] w W) (BP : Blk W B e vs) (hB : w.heap.size ≤ B) (w' : World) (C : Chg [] W w') (a b c : Value) :
    (∃ z0 z1 z2, w'.cell? ⟨B, 0, none⟩ = some z0 ∧ w'.cell? ⟨B, 1, none⟩ = some z1 ∧ w'.cell? ⟨B, 2, none⟩ = some z2 ∧ w'.frozen? ⟨B, 0, none⟩ = false ∧ w'.frozen? ⟨B, 1, none⟩ = false ∧ w'.frozen? ⟨B, 2, none⟩ = false) ∧
    Chg [] w (((w'.setCell ⟨B, 0, none⟩ a).setCell ⟨B, 1, none⟩ b).setCell ⟨B, 2, none⟩ c) ∧ Blk (((w'.setCell ⟨B, 0, none⟩ a).setCell ⟨B, 1, none⟩ b).setCell ⟨B, 2, none⟩ c) B e [a, b, c] := by
  match vs, hl with
  | [z0, z1, z2], _ =>
    have B1 := BP.chg C (by simp)
    exact ⟨⟨z0, z1, z2, B1.cell rfl, B1.cell rfl, B1.cell rfl, B1.free 0, B1.free 1, B1.free 2⟩, (((CA.trans C).setCell (.inr hB) _).setCell (.inr hB) _).setCell (.inr hB) _, ((B1.set 0 a).set 1 b).set 2 c⟩

set_option maxHeartbeats 2000000 in
set_option maxRecDepth 100000 in
theorem has_bad (m c t r : Int) (w : World) (h : ¬ Gm.valid m c t) : Calls Try.prog 30 #[.agg #[.int .i64 m, .int .i64 c, .int .i64 t], .int .i64 r] w (Says w (.tuple #[.agg #[.int .i64 0, .int .i64 0, .int .i64 0], .int .u16 60])) := by
  obtain ⟨W, hW⟩ : ∃ W, W = (w.alloc (.cells #[.int .i64 m, .int .i64 c, .int .i64 t] 23)).alloc (.cells #[.int .i64 0, .int .i64 0, .int .i64 0] 72) := ⟨_, rfl⟩
  have L := geo_box m c t w
  have CA : Hid (Chg [] w W) := by rw [hW]; exact L.1.out.alloc _
  have BP : Blk W (w.heap.size + 1) 72 [.int .i64 0, .int .i64 0, .int .i64 0] := by rw [hW]; exact heap_alloc2_new _ _ _
  have KS : Hid (∀ w', Chg [] W w' → ∀ a b c, _) := fun w' C a b c => fill3 rfl CA.out BP (Nat.le_succ _) w' C a b c
  have CK : Hid (∀ w', Calls Try.prog 26 #[.agg #[.int .i64 m, .int .i64 c, .int .i64 t]] w' (Says w' (.tuple #[.agg #[.int .i64 0, .int .i64 0, .int .i64 0], .int .u16 60]))) := fun w' => gchecked_bad m c t w' h
  clear h L BP
  go_enter Try.func30, Try.ntmps30
  go_wp2_with fail
  rw [← hW]
  clear hW
  refine (CK.out _).mono ?_
  rintro e w1 ⟨rfl, C1⟩
  obtain ⟨⟨z0, z1, z2, c0, c1, c2, f0, f1, f2⟩, FW⟩ := KS.out w1 C1.out (.int .i64 0) (.int .i64 0) (.int .i64 0)
  replace FW := Lib.hid FW
  have hz : w.heap.size + 1 < w1.heap.size := block_lt_of_cell c0
  clear CK KS
  go_wp2_with fail
  refine bodyPost_ret (cell_and_tmp rfl _ _ (w.heap.size + 1) _ _ _ _ rfl (FW.out.2.alloc _) Try.underlying72 info_layout) rfl ?_
  exact ⟨rfl, FW.out.1.alloc _⟩

section
variable (g : Gm) (hg : g.Ok) (w : World)
include hg

set_option maxHeartbeats 2000000 in
set_option maxRecDepth 100000 in
theorem has_out (r : Int) (ho : r < 0 ∨ (g.rows : Int) ≤ r) : Calls Try.prog 30 #[.agg #[.int .i64 (g.n : Int), .int .i64 (g.k : Int), .int .i64 (g.s : Int)], .int .i64 r] w (Says w (.tuple #[.agg #[.int .i64 0, .int .i64 0, .int .i64 0], .int .u16 3])) := by
  obtain ⟨W, hW⟩ : ∃ W, W = (w.alloc (.cells #[.int .i64 (g.n : Int), .int .i64 (g.k : Int), .int .i64 (g.s : Int)] 23)).alloc (.cells #[.int .i64 0, .int .i64 0, .int .i64 0] 72) := ⟨_, rfl⟩
  have L := geo_box (g.n : Int) (g.k : Int) (g.s : Int) w
  have CA : Hid (Chg [] w W) := by rw [hW]; exact L.1.out.alloc _
  have BP : Blk W (w.heap.size + 1) 72 [.int .i64 0, .int .i64 0, .int .i64 0] := by rw [hW]; exact heap_alloc2_new _ _ _
  have KS : Hid (∀ w', Chg [] W w' → ∀ a b c, _) := fun w' C a b c => fill3 rfl CA.out BP (Nat.le_succ _) w' C a b c
  have CK : Hid (∀ w', Calls Try.prog 26 #[.agg #[.int .i64 (g.n : Int), .int .i64 (g.k : Int), .int .i64 (g.s : Int)]] w' (Says w' (.tuple #[.agg #[.int .i64 (g.n : Int), .int .i64 (g.k : Int), .int .i64 (g.s : Int)], .int .u16 0]))) := fun w' => gchecked_good _ _ _ w' hg.valid
  have LR : Hid (∀ w', Calls Try.prog 34 #[.agg #[.int .i64 (g.n : Int), .int .i64 (g.k : Int), .int .i64 (g.s : Int)]] w' (Says w' (.int .i64 (g.rows : Int)))) := fun w' => lrows g hg w'
  have OU : Hid (∀ w', Calls Try.prog 27 #[.int .i64 r, .int .i64 (g.rows : Int)] w' fun e w'' => e = .returned (.bool true) ∧ w'' = w') := fun w' => outside_any r _ true w' ⟨fun _ => ho, fun _ => rfl⟩
  have LB : Hid (∀ w1 : World, _) := fun w1 => lay_box (g.n : Int) (g.k : Int) (g.s : Int) w1
  clear L BP ho
  generalize (g.rows : Int) = R at *
  generalize (g.n : Int) = n at *
  generalize (g.k : Int) = k at *
  generalize (g.s : Int) = s at *
  clear hg
  go_enter Try.func30, Try.ntmps30
  go_wp2_with fail
  rw [← hW]
  clear hW
  refine (CK.out _).mono ?_
  rintro e w1 ⟨rfl, C1⟩
  obtain ⟨LA, LK⟩ := LB.out w1
  clear CK LB
  go_wp2_with fail
  refine (LR.out _).mono ?_
  rintro e w2 ⟨rfl, C2⟩
  have C3 : Hid (Chg [] W w2) := C1.out.trans (LA.out.trans C2.out)
  clear LR
  go_wp2_with fail
  refine (OU.out _).mono ?_
  rintro e w3 ⟨rfl, rfl⟩
  obtain ⟨⟨z0, z1, z2, c0, c1, c2, f0, f1, f2⟩, FW⟩ := KS.out w3 C3.out (.int .i64 0) (.int .i64 0) (.int .i64 0)
  replace FW := Lib.hid FW
  clear OU KS C1 LA LK C2 C3
  go_wp2_with fail
  refine bodyPost_ret (cell_and_tmp rfl _ _ (w.heap.size + 1) _ _ _ _ rfl FW.out.2 Try.underlying72 info_layout) rfl ?_
  exact ⟨rfl, FW.out.1⟩

set_option maxHeartbeats 2000000 in
set_option maxRecDepth 100000 in
theorem has_in (r : Int) (ho : 0 ≤ r ∧ r < (g.rows : Int)) : Calls Try.prog 30 #[.agg #[.int .i64 (g.n : Int), .int .i64 (g.k : Int), .int .i64 (g.s : Int)], .int .i64 r] w (Says w (.tuple #[.agg #[.int .i64 (g.n : Int), .int .i64 (g.k : Int), .int .i64 (g.s : Int)], .int .u16 0])) := by
  obtain ⟨W, hW⟩ : ∃ W, W = (w.alloc (.cells #[.int .i64 (g.n : Int), .int .i64 (g.k : Int), .int .i64 (g.s : Int)] 23)).alloc (.cells #[.int .i64 0, .int .i64 0, .int .i64 0] 72) := ⟨_, rfl⟩
  have L := geo_box (g.n : Int) (g.k : Int) (g.s : Int) w
  have CA : Hid (Chg [] w W) := by rw [hW]; exact L.1.out.alloc _
  have BP : Blk W (w.heap.size + 1) 72 [.int .i64 0, .int .i64 0, .int .i64 0] := by rw [hW]; exact heap_alloc2_new _ _ _
  have KS : Hid (∀ w', Chg [] W w' → ∀ a b c, _) := fun w' C a b c => fill3 rfl CA.out BP (Nat.le_succ _) w' C a b c
  have CK : Hid (∀ w', Calls Try.prog 26 #[.agg #[.int .i64 (g.n : Int), .int .i64 (g.k : Int), .int .i64 (g.s : Int)]] w' (Says w' (.tuple #[.agg #[.int .i64 (g.n : Int), .int .i64 (g.k : Int), .int .i64 (g.s : Int)], .int .u16 0]))) := fun w' => gchecked_good _ _ _ w' hg.valid
  have LR : Hid (∀ w', Calls Try.prog 34 #[.agg #[.int .i64 (g.n : Int), .int .i64 (g.k : Int), .int .i64 (g.s : Int)]] w' (Says w' (.int .i64 (g.rows : Int)))) := fun w' => lrows g hg w'
  have OU : Hid (∀ w', Calls Try.prog 27 #[.int .i64 r, .int .i64 (g.rows : Int)] w' fun e w'' => e = .returned (.bool false) ∧ w'' = w') := fun w' => outside_any r _ false w' ⟨(fun h => by cases h), (fun h => by omega)⟩
  have LB : Hid (∀ w1 : World, _) := fun w1 => lay_box (g.n : Int) (g.k : Int) (g.s : Int) w1
  clear L BP ho
  generalize (g.rows : Int) = R at *
  generalize (g.n : Int) = n at *
  generalize (g.k : Int) = k at *
  generalize (g.s : Int) = s at *
  clear hg
  go_enter Try.func30, Try.ntmps30
  go_wp2_with fail
  rw [← hW]
  clear hW
  refine (CK.out _).mono ?_
  rintro e w1 ⟨rfl, C1⟩
  obtain ⟨LA, LK⟩ := LB.out w1
  clear CK LB
  go_wp2_with fail
  refine (LR.out _).mono ?_
  rintro e w2 ⟨rfl, C2⟩
  have C3 : Hid (Chg [] W w2) := C1.out.trans (LA.out.trans C2.out)
  clear LR
  go_wp2_with fail
  refine (OU.out _).mono ?_
  rintro e w3 ⟨rfl, rfl⟩
  obtain ⟨k0, k1, k2⟩ := LK.out w3 C2.out
  obtain ⟨⟨z0, z1, z2, c0, c1, c2, f0, f1, f2⟩, FW⟩ := KS.out w3 C3.out (.int .i64 n) (.int .i64 k) (.int .i64 s)
  replace FW := Lib.hid FW
  clear OU KS C1 LA LK C2 C3
  go_wp2_with fail
  refine bodyPost_ret (cell_and_tmp rfl _ _ (w.heap.size + 1) _ _ _ _ rfl FW.out.2 Try.underlying72 info_layout) rfl ?_
  exact ⟨rfl, FW.out.1⟩

end
end Go.Proofs.Ytheplbjlfkjncaa
