/-
  The book's own walks over lists of which there are none. By an AI agent.
-/
import Derived.Test.YtihmegpcbpdipaaG
namespace Go.Proofs.Ytihmegpcbpdipaa
open Go.RowKit

set_option maxRecDepth 100000 in
theorem ownBytes_none (w : World) :
    Calls Try.prog 38 #[.slice none 0 0] w fun e w' => e = .returned (.bool true) ∧ w = w' := by
  go_enter Try.func38, Try.ntmps38
  go_wp2
  iterate 3 (try (refine wp_loop_rounds 1 ?_; rw [rounds_succ]; go_wp2))
  go_ret
  exact ⟨rfl, rfl⟩

set_option maxRecDepth 100000 in
theorem ownTexts_none (w : World) :
    Calls Try.prog 39 #[.slice none 0 0] w fun e w' => e = .returned (.bool true) ∧ w = w' := by
  go_enter Try.func39, Try.ntmps39
  go_wp2
  iterate 3 (try (refine wp_loop_rounds 1 ?_; rw [rounds_succ]; go_wp2))
  go_ret
  exact ⟨rfl, rfl⟩

set_option maxRecDepth 100000 in
theorem ownInts_none (w : World) :
    Calls Try.prog 40 #[.slice none 0 0] w fun e w' => e = .returned (.bool true) ∧ w = w' := by
  go_enter Try.func40, Try.ntmps40
  go_wp2
  iterate 3 (try (refine wp_loop_rounds 1 ?_; rw [rounds_succ]; go_wp2))
  go_ret
  exact ⟨rfl, rfl⟩

set_option maxRecDepth 100000 in
theorem ownNumbers_none (w : World) :
    Calls Try.prog 41 #[.slice none 0 0] w fun e w' => e = .returned (.bool true) ∧ w = w' := by
  go_enter Try.func41, Try.ntmps41
  go_wp2
  iterate 3 (try (refine wp_loop_rounds 1 ?_; rw [rounds_succ]; go_wp2))
  go_ret
  exact ⟨rfl, rfl⟩

set_option maxRecDepth 100000 in
theorem ownErrs_none (w : World) :
    Calls Try.prog 42 #[.slice none 0 0] w fun e w' => e = .returned (.bool true) ∧ w = w' := by
  go_enter Try.func42, Try.ntmps42
  go_wp2
  iterate 3 (try (refine wp_loop_rounds 1 ?_; rw [rounds_succ]; go_wp2))
  go_ret
  exact ⟨rfl, rfl⟩

set_option maxRecDepth 100000 in
theorem ownSpans_none (w : World) :
    Calls Try.prog 43 #[.slice none 0 0] w fun e w' => e = .returned (.bool true) ∧ w = w' := by
  go_enter Try.func43, Try.ntmps43
  go_wp2
  iterate 3 (try (refine wp_loop_rounds 1 ?_; rw [rounds_succ]; go_wp2))
  go_ret
  exact ⟨rfl, rfl⟩

set_option maxRecDepth 100000 in
theorem ownStates_none (w : World) :
    Calls Try.prog 44 #[.slice none 0 0] w fun e w' => e = .returned (.bool true) ∧ w = w' := by
  go_enter Try.func44, Try.ntmps44
  go_wp2
  iterate 3 (try (refine wp_loop_rounds 1 ?_; rw [rounds_succ]; go_wp2))
  go_ret
  exact ⟨rfl, rfl⟩

set_option maxRecDepth 100000 in
theorem ownRows_none (w : World) :
    Calls Try.prog 46 #[.slice none 0 0] w fun e w' => e = .returned (.bool true) ∧ w = w' := by
  go_enter Try.func46, Try.ntmps46
  go_wp2
  iterate 3 (try (refine wp_loop_rounds 1 ?_; rw [rounds_succ]; go_wp2))
  go_ret
  exact ⟨rfl, rfl⟩

set_option maxRecDepth 100000 in
theorem ownPuts_none (w : World) :
    Calls Try.prog 47 #[.slice none 0 0] w fun e w' => e = .returned (.bool true) ∧ w = w' := by
  go_enter Try.func47, Try.ntmps47
  go_wp2
  iterate 3 (try (refine wp_loop_rounds 1 ?_; rw [rounds_succ]; go_wp2))
  go_ret
  exact ⟨rfl, rfl⟩

set_option maxRecDepth 100000 in
theorem ownPatches_none (w : World) :
    Calls Try.prog 48 #[.slice none 0 0] w fun e w' => e = .returned (.bool true) ∧ w = w' := by
  go_enter Try.func48, Try.ntmps48
  go_wp2
  iterate 3 (try (refine wp_loop_rounds 1 ?_; rw [rounds_succ]; go_wp2))
  go_ret
  exact ⟨rfl, rfl⟩

set_option maxRecDepth 100000 in
theorem ownTxns_none (w : World) :
    Calls Try.prog 49 #[.slice none 0 0] w fun e w' => e = .returned (.bool true) ∧ w = w' := by
  go_enter Try.func49, Try.ntmps49
  go_wp2
  iterate 3 (try (refine wp_loop_rounds 1 ?_; rw [rounds_succ]; go_wp2))
  go_ret
  exact ⟨rfl, rfl⟩

theorem info_boolss : (Try.prog.info? 68).map (fun i => (i.zero, i.size, i.bytes)) = some (some (.slice none 0 0), 1, 24) := by kernel_rfl

set_option maxRecDepth 100000 in
theorem ownBools_none (w : World) :
    Calls Try.prog 45 #[.slice none 0 0] w fun e w' => e = .returned (.bool true) ∧ Chg [] w w' := by
  obtain ⟨j0, ki, kz0, kz1, kz2⟩ := info_parts info_boolss
  go_enter Try.func45, Try.ntmps45
  go_wp2_with (at_make; refine wpList_make_full _ rfl _ _ 40 rfl w.heap.size 68 j0 (.slice none 0 0) 1 Try.underlying40 ki kz0 kz1 .i64 .i64 _ _ 0 rfl rfl rfl rfl (by omega) (by unfold maxLen; omega) (Nat.le_refl _) ?_; intro w1 hown hgrow)
  refine wp_loop_rounds 1 ?_
  rw [rounds_succ]
  go_wp2
  go_ret
  exact ⟨rfl, (Chg.refl _ _).grown hgrow (by intro k hk; cases hk)⟩

end Go.Proofs.Ytihmegpcbpdipaa
