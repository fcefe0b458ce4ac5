/-
  Behind a cut another one changes nothing, what had been flushed is there, and nothing that was not written.
  Conditions: none; the arguments are any that a row lets in.
  By an AI agent; no person has read it.
-/
import Derived.Test.YtljhpdgjajhgbaaLaw
import Derived.Test.YtljhpdgjajhgbaaGInMore
import Derived.Test.YtljhpdgjajhgbaaLaw5
import Derived.Test.YtljhpdgjajhgbaaByCuts
namespace Go.Proofs.Ytljhpdgjajhgbaa.bayCuts
open Go.ChangeShapes Go.WideShapes Go.ChangeAt Go.RowKit

set_option maxRecDepth 100000 in
theorem lifted (os : Os) (started : os.Started) (H : Type) (enc : TypeId × Value → H) :
    ReturnsInHanded {} Try.checked os 9 .any (Rows.bayCutsSpec.pre6 enc Try.prog Try.f9 Rows.bayCutsRow.domain false) (Rows.bayCutsSpec.post enc Try.prog Try.f9 false true false false) := by
  refine returnsInHanded_of_change_sized (C := Try.checked) own started (by kernel_rfl) Try.func9
    (ChangeSpec.witness6 (enc := enc) (C := Try.checked) false ⟨#[], #[.int .i64 0, .slice none 0 0, .int .i64 0, .slice none 0 0, .slice none 0 0], []⟩ 8 (by kernel_rfl) (by kernel_rfl) (by kernel_rfl) (by kernel_rfl)) ?_
  intro W base args ds gs before hval0 hW hcnd hsz0 _
  have hsz : (DataW.weightsEach Try.prog (Try.f9.params.toList ++ Rows.bayCutsSpec.plain.varTypes Try.prog) (ds ++ gs)).all (· ≤ reachBytes) = true := hsz0
  have hval : ∀ (j : Nat) t v, Try.f9.params[j]? = some t → args[j]? = some v → Value.okWide Try.prog W .any base t v := hval0
  have hW' := hW
  obtain ⟨p, q, hA0, hV, rfl, hfz, hnd⟩ := hW
  have hA : DataW.TrodAll enc Try.prog W 0 (fun _ => true) true Try.f9.params.toList args.toList ds p := hA0
  rw [Try.params9] at hA hval hsz
  obtain ⟨v0, v1, v2, v3, v4, d0, d1, d2, d3, d4, p0, p1, p2, p3, p4, rfl, rfl, rfl, h0, h1, h2, h3, h4⟩ := trodAll_five hA
  obtain ⟨rfl, rfl⟩ := trodVars_none hV
  clear hA0 hval0 hsz0
  obtain ⟨a0, rfl, rfl, rfl, w0⟩ := open_int Try.underlying3 (hval 0 3 v0 rfl rfl) h0
  have r0 := bounds_i64 w0
  obtain ⟨ao1, len1, cap1, rfl⟩ := okWide_slice Try.underlying23 (hval 1 23 v1 rfl rfl)
  obtain ⟨fuel1, hf1⟩ := h1
  obtain ⟨es1, ho1⟩ := open_bops (by simpa [Value.cells] using hf1) (Fits.arg hsz (j := 1) rfl rfl)
  obtain ⟨a2, rfl, rfl, rfl, w2⟩ := open_int Try.underlying3 (hval 2 3 v2 rfl rfl) h2
  have r2 := bounds_i64 w2
  obtain ⟨ao3, len3, cap3, rfl⟩ := okWide_slice Try.underlying47 (hval 3 47 v3 rfl rfl)
  obtain ⟨fuel3, hf3⟩ := h3
  obtain ⟨bs3, ho3, hb3⟩ := open_bools_fit (by simpa [Value.cells] using hf3) (Fits.arg hsz (j := 3) rfl rfl)
  obtain ⟨ao4, len4, cap4, rfl⟩ := okWide_slice Try.underlying47 (hval 4 47 v4 rfl rfl)
  obtain ⟨fuel4, hf4⟩ := h4
  obtain ⟨bs4, ho4, hb4⟩ := open_bools_fit (by simpa [Value.cells] using hf4) (Fits.arg hsz (j := 4) rfl rfl)
  refine (bayCuts_walk a0 _ es1 a2 _ bs3 _ bs4 W r0 ho1 r2 ho3 hb3 ho4 hb4).mono fun e W' ⟨he, hg⟩ => ?_
  subst he
  exact ⟨_, rfl, post_law rfl hW' (hg.below (Below.refl _ _) (Nat.le_refl _) (by simp)) (by kernel_rfl) (by kernel_rfl) rfl rfl rfl⟩

theorem proved : Rows.BayCutsSaid :=
  OpenClaim.holds_of_wide 9 Try.f9 rfl rfl rfl rfl rfl rfl rfl ⟨rfl, rfl, rfl, rfl, rfl⟩ rfl rfl rfl rfl rfl (by kernel_rfl) Try.func9 (by kernel_rfl)
    (of_decide_eq_true (by kernel_rfl)) (by unfold Func.isWrapper; first | (rw [if_pos (by decide +kernel)]; kernel_rfl) | (rw [if_neg (by decide +kernel)]; exact ⟨rfl, rfl⟩))
    (fun os started H enc _ => lifted os started H enc)
#print axioms proved
end Go.Proofs.Ytljhpdgjajhgbaa.bayCuts
