/-
  The two batches of writes of a batch are its sectors and the checkpoint's, in their places, and what they are made of is not held: of any batch.
  Conditions: none; the arguments are any that a row lets in.
  By an AI agent; no person has read it.
-/
import Derived.Test.YtnkdgmnmmmjgjaaGreatLaw
import Derived.Test.YtnkdgmnmmmjgjaaGreatGIn
import Derived.Test.YtnkdgmnmmmjgjaaGreatGInPtc
import Derived.Test.YtnkdgmnmmmjgjaaGreatScWrR
namespace Go.Proofs.YtnkdgmnmmmjgjaaGreat
open Go.RowKit

theorem writes_walk (a : Int) (sq : Nat) (v : Value) (ds : List PtD) (W : World) (r : 0 ≤ a ∧ a ≤ 18446744073709551615) (h : Pts W v ds) (hb : ∀ d ∈ ds, By d.d ∧ Capd d.v) :
    Calls Tryz.prog 3 #[.int .u64 a, .agg #[.int .u64 (sq : Int), v]] W fun e W' => e = .returned (.bool true) ∧ Chg [] W W' := by
  obtain ⟨ep, rfl⟩ := Int.eq_ofNat_of_zero_le r.1
  exact writes_any ep sq v ds W h (fun d hd => ⟨(hb d hd).1, (hb d hd).2⟩)

end Go.Proofs.YtnkdgmnmmmjgjaaGreat
namespace Go.Proofs.YtnkdgmnmmmjgjaaGreat.scanWrites
open Go.ChangeShapes Go.WideShapes Go.ChangeAt Go.RowKit

set_option maxRecDepth 100000 in
theorem lifted (os : Os) (started : os.Started) (H : Type) (enc : TypeId × Value → H) :
    ReturnsInHanded {} Tryz.checked os 3 .any (Rows.scanWritesSpec.pre6 enc Tryz.prog Tryz.f3 Rows.scanWritesRow.domain false) (Rows.scanWritesSpec.post enc Tryz.prog Tryz.f3 false true false false) := by
  refine returnsInHanded_of_change_sized (C := Tryz.checked) own started (by kernel_rfl) Tryz.func3
    (ChangeSpec.witness6 (enc := enc) (C := Tryz.checked) false ⟨#[], #[.int .u64 0, .agg #[.int .u64 0, .slice none 0 0]], []⟩ 8 (by kernel_rfl) (by kernel_rfl) (by kernel_rfl) (by kernel_rfl)) ?_
  intro W base args ds gs before hval0 hW hcnd hsz0 _
  have hsz : (DataW.weightsEach Tryz.prog (Tryz.f3.params.toList ++ Rows.scanWritesSpec.plain.varTypes Tryz.prog) (ds ++ gs)).all (· ≤ reachBytes) = true := hsz0
  have hval : ∀ (j : Nat) t v, Tryz.f3.params[j]? = some t → args[j]? = some v → Value.okWide Tryz.prog W .any base t v := hval0
  have hW' := hW
  obtain ⟨p, q, hA0, hV, rfl, hfz, hnd⟩ := hW
  have hA : DataW.TrodAll enc Tryz.prog W 0 (fun _ => true) true Tryz.f3.params.toList args.toList ds p := hA0
  rw [Tryz.params3] at hA hval hsz
  obtain ⟨v0, v1, d0, d1, p0, p1, rfl, rfl, rfl, h0, h1⟩ := trodAll_two hA
  obtain ⟨rfl, rfl⟩ := trodVars_none hV
  clear hA0 hval0 hsz0
  obtain ⟨a0, rfl, rfl, rfl, w0⟩ := open_int Tryz.underlying22 (hval 0 22 v0 rfl rfl) h0
  have r0 := bounds_u64 w0
  obtain ⟨sq1, vt1, es1, fq1, rfl, ho1, hy1⟩ := open_txn (hval 1 25 v1 rfl rfl) h1 (Fits.arg hsz (j := 1) rfl rfl)
  refine (writes_walk a0 _ _ es1 W r0 ho1 hy1).mono fun e W' ⟨he, hg⟩ => ?_
  subst he
  exact ⟨_, rfl, post_law rfl hW' (hg.below (Below.refl _ _) (Nat.le_refl _) (by simp)) (by kernel_rfl) (by kernel_rfl) rfl rfl rfl⟩

theorem proved : Rows.ScanWritesSaid :=
  OpenClaim.holds_of_wide 3 Tryz.f3 rfl rfl rfl rfl rfl rfl rfl ⟨rfl, rfl, rfl, rfl, rfl⟩ rfl rfl rfl rfl rfl (by kernel_rfl) Tryz.func3 (by kernel_rfl)
    (of_decide_eq_true (by kernel_rfl)) (by unfold Func.isWrapper; first | (rw [if_pos (by decide +kernel)]; kernel_rfl) | (rw [if_neg (by decide +kernel)]; exact ⟨rfl, rfl⟩))
    (fun os started H enc _ => lifted os started H enc)
#print axioms proved
end Go.Proofs.YtnkdgmnmmmjgjaaGreat.scanWrites
