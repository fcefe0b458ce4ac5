/-
  The document's layout of blocks: Check, Rows, Blocks, Parity. By an AI agent.
-/
import Derived.Test.YtheplbjlfkjncaaGmCons
namespace Go.Proofs.Ytheplbjlfkjncaa
open Go.RowKit

section
variable (m c t : Int) (w : World)

set_option maxHeartbeats 1000000 in
set_option maxRecDepth 100000 in
theorem rgcheck_bad (h : ¬ Gm.valid m c t) : Calls Try.prog 17 #[.agg #[.int .i64 m, .int .i64 c, .int .i64 t]] w (Says w (.int .i64 60)) := by
  have E : Hid (Says w (.int .i64 60) (.returned (.int .i64 60)) (w.alloc (.cells #[.int .i64 m, .int .i64 c, .int .i64 t] 23))) := ⟨rfl, (Chg.refl _ _).alloc _⟩
  rcases Gm.bad h with h1 | ⟨h1, h2⟩ | ⟨h1, h2, h3⟩ | ⟨h1, h2, h3, h4⟩ | ⟨h1, h2, h3, h4, h5⟩ | ⟨h1, h2, h3, h4, h5, h6⟩
  all_goals
    clear h
    go_enter Try.func17, Try.ntmps17
    go_wp2_with fail
    go_ret
    exact E.out

set_option maxHeartbeats 1000000 in
set_option maxRecDepth 100000 in
theorem rgcheck_good (h : Gm.valid m c t) : Calls Try.prog 17 #[.agg #[.int .i64 m, .int .i64 c, .int .i64 t]] w (Says w (.int .i64 0)) := by
  have E : Hid (Says w (.int .i64 0) (.returned (.int .i64 0)) (w.alloc (.cells #[.int .i64 m, .int .i64 c, .int .i64 t] 23))) := ⟨rfl, (Chg.refl _ _).alloc _⟩
  obtain ⟨h1, h2, h3, h4, h5, h6⟩ := h
  have g1 : ¬ m < 3 := by omega
  have g2 : ¬ 16 < m := by omega
  have g3 : ¬ c < 1 := by omega
  have g4 : ¬ 16 < c := by omega
  have g5 : ¬ t < 1 := by omega
  have g6 : ¬ 256 < t := by omega
  clear h1 h2 h3 h4 h5 h6
  go_enter Try.func17, Try.ntmps17
  go_wp2_with fail
  go_ret
  exact E.out

end

/-- In a later world. -/
theorem Says.later {w wA : World} {v : Value} {e : Ending} {w' : World} (h : Says wA v e w') (c : Chg [] w wA) : Says w v e w' := ⟨h.1, c.trans h.2.out⟩

section
variable (m c t : Int) (w : World)

set_option maxHeartbeats 1000000 in
set_option maxRecDepth 100000 in
theorem rgrows_bad (h : ¬ Gm.valid m c t) : Calls Try.prog 19 #[.agg #[.int .i64 m, .int .i64 c, .int .i64 t]] w (Says w (.int .i64 0)) := by
  have CA : Hid (Chg [] w (w.alloc (.cells #[.int .i64 m, .int .i64 c, .int .i64 t] 23))) := (Chg.refl _ _).alloc _
  have CK := Lib.hid (rgcheck_bad m c t (w.alloc (.cells #[.int .i64 m, .int .i64 c, .int .i64 t] 23)) h)
  clear h
  go_enter Try.func19, Try.ntmps19
  go_wp2_with fail
  refine CK.out.mono ?_
  rintro e w1 ⟨rfl, C⟩
  have CW : Hid (Chg [] w w1) := CA.out.trans C.out
  clear CK CA C
  go_wp2_with fail
  go_ret
  exact ⟨rfl, CW⟩

set_option maxHeartbeats 1000000 in
set_option maxRecDepth 100000 in
theorem rgblocks_bad (hm : -9223372036854775808 ≤ m ∧ m ≤ 9223372036854775807) (h : ¬ Gm.valid m c t) : Calls Try.prog 21 #[.agg #[.int .i64 m, .int .i64 c, .int .i64 t]] w (Says w (.int .i64 0)) := by
  have BX := Blk.made w [.int .i64 m, .int .i64 c, .int .i64 t] 23
  have CA : Hid (Chg [] w (w.alloc (.cells #[.int .i64 m, .int .i64 c, .int .i64 t] 23))) := (Chg.refl _ _).alloc _
  have K0 : Hid (∀ w', Chg [] (w.alloc (.cells #[.int .i64 m, .int .i64 c, .int .i64 t] 23)) w' → w'.cell? ⟨w.heap.size, 0, none⟩ = some (.int .i64 m)) := fun w' C => (C.cell (p := ⟨w.heap.size, 0, none⟩) BX.lt (by simp)).trans (BX.cell (j := 0) rfl)
  have CK := Lib.hid (rgrows_bad m c t (w.alloc (.cells #[.int .i64 m, .int .i64 c, .int .i64 t] 23)) h)
  obtain ⟨hm1, hm2⟩ := hm
  clear h BX
  go_enter Try.func21, Try.ntmps21
  go_wp2_with fail
  refine CK.out.mono ?_
  rintro e w1 ⟨rfl, C⟩
  have CW : Hid (Chg [] w w1) := CA.out.trans C.out
  have c0 := K0.out w1 C.out
  clear CK CA C K0
  go_wp2_with fail
  go_ret
  exact ⟨rfl, CW⟩

end

section
variable (g : Gm) (hg : g.Ok) (w : World)
include hg

theorem Gm.Ok.valid : Gm.valid g.n g.k g.s := by
  have := hg.n; have := hg.k; have := hg.s
  unfold Gm.valid
  omega

set_option maxHeartbeats 1000000 in
set_option maxRecDepth 100000 in
theorem rgrows_good : Calls Try.prog 19 #[.agg #[.int .i64 (g.n : Int), .int .i64 (g.k : Int), .int .i64 (g.s : Int)]] w (Says w (.int .i64 (g.rows : Int))) := by
  have BX := Blk.made w [.int .i64 (g.n : Int), .int .i64 (g.k : Int), .int .i64 (g.s : Int)] 23
  have CA : Hid (Chg [] w (w.alloc (.cells #[.int .i64 (g.n : Int), .int .i64 (g.k : Int), .int .i64 (g.s : Int)] 23))) := (Chg.refl _ _).alloc _
  have K0 : Hid (∀ w', Chg [] (w.alloc (.cells #[.int .i64 (g.n : Int), .int .i64 (g.k : Int), .int .i64 (g.s : Int)] 23)) w' → w'.cell? ⟨w.heap.size, 1, none⟩ = some (.int .i64 (g.k : Int)) ∧ w'.cell? ⟨w.heap.size, 2, none⟩ = some (.int .i64 (g.s : Int))) := fun w' C =>
    ⟨(C.cell (p := ⟨w.heap.size, 1, none⟩) BX.lt (by simp)).trans (BX.cell (j := 1) rfl), (C.cell (p := ⟨w.heap.size, 2, none⟩) BX.lt (by simp)).trans (BX.cell (j := 2) rfl)⟩
  have CK := Lib.hid (rgcheck_good _ _ _ (w.alloc (.cells #[.int .i64 (g.n : Int), .int .i64 (g.k : Int), .int .i64 (g.s : Int)] 23)) hg.valid)
  have hr := Gm.le_rows hg
  have e1 : (g.s : Int) * (g.k : Int) = (g.rows : Int) := by unfold Gm.rows; rw [Int.natCast_mul]
  have w1' : IntKind.i64.wrap (g.rows : Int) = (g.rows : Int) := by rw [IntKind.wrap_i64]; omega
  have w2' : wrap64 (g.rows : Int) = (g.rows : Int) := by unfold wrap64; omega
  generalize (g.rows : Int) = R at *
  generalize (g.n : Int) = n at *
  generalize (g.k : Int) = k at *
  generalize (g.s : Int) = s at *
  clear hg BX hr
  go_enter Try.func19, Try.ntmps19
  go_wp2_with fail
  refine CK.out.mono ?_
  rintro e w1 ⟨rfl, C⟩
  have CW : Hid (Chg [] w w1) := CA.out.trans C.out
  obtain ⟨c1, c2⟩ := K0.out w1 C.out
  clear CK CA C K0
  go_wp2_with fail
  go_ret
  exact ⟨rfl, CW⟩

end
end Go.Proofs.Ytheplbjlfkjncaa
