/-
  SameVerdict; what a verdict's states are at most. By an AI agent.
-/
import Derived.Test.YtffpjefecmkfmaaBVtArow
import Derived.Test.YtffpjefecmkfmaaBVtCong
import Derived.Test.YtffpjefecmkfmaaBVtKn
import Derived.Test.YtffpjefecmkfmaaBSpSame
import Derived.Test.YtffpjefecmkfmaaBRefSpChk
namespace Go.Proofs.Ytffpjefecmkfmaa
open Go.RowKit

theorem Vt.out_len (ds : List BalD) : (Vt.out ds).st.length ≤ 140737488355328 := by
  unfold Vt.out
  by_cases h : Vt.err ds = 0
  · rw [if_pos h]
    show (Vt.stsTo ds _ _).length ≤ _
    rw [Vt.stsTo_len]
    have hm : Vt.most ds ≠ 0 := by
      intro e
      unfold Vt.err at h
      by_cases hn : 4 ≤ ds.length ∧ ds.length ≤ 17
      · rw [if_pos hn] at h
        have hr : Vt.refusal ds = 150 := by unfold Vt.refusal; rw [if_pos e]
        rw [hr] at h
        simp at h
      · rw [if_neg hn] at h; cases h
    have q := (Vt.cnt_is (Vt.guide_cnt hm)).ok
    have q1 := q.1.2.1
    have q2 := q.2.1.2.2.2.2.2.2.2.2
    omega
  · rw [if_neg h]
    show (0 : Nat) ≤ _
    decide

set_option maxHeartbeats 4000000 in
set_option maxRecDepth 100000 in
theorem sameVerdict_any (s : Sup) (c j : Bool) (u v : Value) (w : World) (hu : Sl w u s.st) (hv : Sl w v s.st) (hg : s.st.length ≤ 140737488355328) :
    Calls Try.prog 13 #[verdV s u c j, verdV s v c j] w fun e w' => e = .returned (.bool true) ∧ Hid (Chg [] w w') := by
  obtain ⟨W2, hW2⟩ : ∃ W2, W2 = (w.alloc (.cells (verdCells s u c j).toArray 31)).alloc (.cells (verdCells s v c j).toArray 31) := ⟨_, rfl⟩
  obtain ⟨B1, B2, C2⟩ := two_blocks w (verdCells s u c j) (verdCells s v c j) 31 31 hW2
  have SS := Lib.hid (same_super s u v W2 (hu.chg C2 (by simp)) (hv.chg C2 (by simp)) hg)
  obtain ⟨uo, uc, rfl⟩ := hu.slice
  obtain ⟨vo, vc, rfl⟩ := hv.slice
  replace C2 := Lib.hid C2
  unfold verdV
  unfold verdCells at *
  unfold Sup.val at SS
  have a0 := B1.cell (j := 0) rfl
  have a1 := B1.cell (j := 1) rfl
  have a2 := B1.cell (j := 2) rfl
  have a3 := B1.cell (j := 3) rfl
  have a4 := B1.cell (j := 4) rfl
  have a5 := B1.cell (j := 5) rfl
  have a6 := B1.cell (j := 6) rfl
  have a7 := B1.cell (j := 7) rfl
  have a8 := B1.cell (j := 8) rfl
  have a9 := B1.cell (j := 9) rfl
  have a10 := B1.cell (j := 10) rfl
  have a11 := B1.cell (j := 11) rfl
  clear B1 B2 hu hv
  rw [hW2] at SS C2
  clear hW2 a0 a1 a2 a3 a4 a5 a6 a7 a8 a9 a10 a11
  clear W2
  go_enter Try.func13, Try.ntmps13
  cases c <;> cases j
  all_goals (
    go_wp2_with fail
    refine SS.out.mono ?_
    rintro e w3 ⟨rfl, C3⟩
    have C3' := Lib.hid (C2.out.trans C3.out)
    clear SS C2 C3
    go_wp2_with fail
    go_ret
    exact ⟨rfl, C3'⟩)

end Go.Proofs.Ytffpjefecmkfmaa
