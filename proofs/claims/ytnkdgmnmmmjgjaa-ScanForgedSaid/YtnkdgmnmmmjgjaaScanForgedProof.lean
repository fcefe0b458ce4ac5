/-
  A batch whose data are the sectors of another one, laid where that other one would begin, makes nothing count: of any batch.
  Conditions: none; the arguments are any that a row lets in.
  By an AI agent; no person has read it.
-/
import Derived.Test.YtnkdgmnmmmjgjaaLaw
import Derived.Test.YtnkdgmnmmmjgjaaGIn
import Derived.Test.YtnkdgmnmmmjgjaaGInPtc
import Derived.Test.YtnkdgmnmmmjgjaaScLawF
namespace Go.Proofs.Ytnkdgmnmmmjgjaa
open Go.RowKit

theorem forged_walk (a : Int) (v : Value) (ds : List PtD) (W : World) (r : 0 ≤ a ∧ a ≤ 65535) (h : Pts W v ds) (hb : ∀ d ∈ ds, By d.d ∧ Capd d.v) :
    Calls Try.prog 4 #[.int .u16 a, v] W fun e W' => e = .returned (.bool true) ∧ Chg [] W W' := by
  obtain ⟨sq, rfl⟩ := Int.eq_ofNat_of_zero_le r.1
  exact forged_any sq v ds W (by omega) h (fun d hd => ⟨(hb d hd).1, (hb d hd).2⟩)

end Go.Proofs.Ytnkdgmnmmmjgjaa
namespace Go.Proofs.Ytnkdgmnmmmjgjaa.scanForged
open Go.ChangeShapes Go.WideShapes Go.ChangeAt Go.RowKit

set_option maxRecDepth 100000 in
theorem lifted (os : Os) (started : os.Started) (H : Type) (enc : TypeId × Value → H) :
    ReturnsInHanded {} Try.checked os 4 .any (Rows.scanForgedSpec.pre6 enc Try.prog Try.f4 Rows.scanForgedRow.domain false) (Rows.scanForgedSpec.post enc Try.prog Try.f4 false true false false) := by
  refine returnsInHanded_of_change_sized (C := Try.checked) own started (by kernel_rfl) Try.func4
    (ChangeSpec.witness6 (enc := enc) (C := Try.checked) false ⟨#[], #[.int .u16 0, .slice none 0 0], []⟩ 8 (by kernel_rfl) (by kernel_rfl) (by kernel_rfl) (by kernel_rfl)) ?_
  intro W base args ds gs before hval0 hW hcnd hsz0 _
  have hsz : (DataW.weightsEach Try.prog (Try.f4.params.toList ++ Rows.scanForgedSpec.plain.varTypes Try.prog) (ds ++ gs)).all (· ≤ reachBytes) = true := hsz0
  have hval : ∀ (j : Nat) t v, Try.f4.params[j]? = some t → args[j]? = some v → Value.okWide Try.prog W .any base t v := hval0
  have hW' := hW
  obtain ⟨p, q, hA0, hV, rfl, hfz, hnd⟩ := hW
  have hA : DataW.TrodAll enc Try.prog W 0 (fun _ => true) true Try.f4.params.toList args.toList ds p := hA0
  rw [Try.params4] at hA hval hsz
  obtain ⟨v0, v1, d0, d1, p0, p1, rfl, rfl, rfl, h0, h1⟩ := trodAll_two hA
  obtain ⟨rfl, rfl⟩ := trodVars_none hV
  clear hA0 hval0 hsz0
  obtain ⟨a0, rfl, rfl, rfl, w0⟩ := open_int Try.underlying22 (hval 0 22 v0 rfl rfl) h0
  have r0 := bounds_u16 w0
  obtain ⟨ao1, len1, cap1, rfl⟩ := okWide_slice Try.underlying31 (hval 1 31 v1 rfl rfl)
  obtain ⟨fuel1, hf1⟩ := h1
  obtain ⟨es1, ho1, hy1⟩ := open_ptsc (by simpa [Value.cells] using hf1) (Fits.arg hsz (j := 1) rfl rfl)
  refine (forged_walk a0 _ es1 W r0 ho1 hy1).mono fun e W' ⟨he, hg⟩ => ?_
  subst he
  exact ⟨_, rfl, post_law rfl hW' (hg.below (Below.refl _ _) (Nat.le_refl _) (by simp)) (by kernel_rfl) (by kernel_rfl) rfl rfl rfl⟩

theorem proved : Rows.ScanForgedSaid :=
  OpenClaim.holds_of_wide 4 Try.f4 rfl rfl rfl rfl rfl rfl rfl ⟨rfl, rfl, rfl, rfl, rfl⟩ rfl rfl rfl rfl rfl (by kernel_rfl) Try.func4 (by kernel_rfl)
    (of_decide_eq_true (by kernel_rfl)) (by unfold Func.isWrapper; first | (rw [if_pos (by decide +kernel)]; kernel_rfl) | (rw [if_neg (by decide +kernel)]; exact ⟨rfl, rfl⟩))
    (fun os started H enc _ => lifted os started H enc)
#print axioms proved
end Go.Proofs.Ytnkdgmnmmmjgjaa.scanForged
