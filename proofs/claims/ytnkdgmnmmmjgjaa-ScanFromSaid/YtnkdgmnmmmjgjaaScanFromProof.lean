/-
  A checkpoint that has gone on to a later batch finds that one and those behind it: of any batches in a ring of any size.
  Conditions: none; the arguments are any that a row lets in.
  By an AI agent; no person has read it.
-/
import Derived.Test.YtnkdgmnmmmjgjaaLaw
import Derived.Test.YtnkdgmnmmmjgjaaGIn
import Derived.Test.YtnkdgmnmmmjgjaaLaw5
import Derived.Test.YtnkdgmnmmmjgjaaGInPls
import Derived.Test.YtnkdgmnmmmjgjaaScLawO
namespace Go.Proofs.Ytnkdgmnmmmjgjaa
open Go.RowKit

theorem from_walk (a b c d : Int) (v : Value) (ds : List PlD) (W : World) (r0 : 0 ≤ a ∧ a ≤ 255) (r1 : 0 ≤ b ∧ b ≤ 255) (r2 : 0 ≤ c ∧ c ≤ 65535) (r3 : 0 ≤ d ∧ d ≤ 255) (h : Pls W v ds) :
    Calls Try.prog 5 #[.int .u8 a, .int .u8 b, .int .u16 c, v, .int .u8 d] W fun e W' => e = .returned (.bool true) ∧ Chg [] W W' := by
  obtain ⟨z, rfl⟩ := Int.eq_ofNat_of_zero_le r0.1
  obtain ⟨tl, rfl⟩ := Int.eq_ofNat_of_zero_le r1.1
  obtain ⟨sq, rfl⟩ := Int.eq_ofNat_of_zero_le r2.1
  obtain ⟨k, rfl⟩ := Int.eq_ofNat_of_zero_le r3.1
  exact from_any z tl sq k v ds W (by omega) (by omega) (by omega) (by omega) h

end Go.Proofs.Ytnkdgmnmmmjgjaa
namespace Go.Proofs.Ytnkdgmnmmmjgjaa.scanFrom
open Go.ChangeShapes Go.WideShapes Go.ChangeAt Go.RowKit

set_option maxRecDepth 100000 in
theorem lifted (os : Os) (started : os.Started) (H : Type) (enc : TypeId × Value → H) :
    ReturnsInHanded {} Try.checked os 5 .any (Rows.scanFromSpec.pre6 enc Try.prog Try.f5 Rows.scanFromRow.domain false) (Rows.scanFromSpec.post enc Try.prog Try.f5 false true false false) := by
  refine returnsInHanded_of_change_sized (C := Try.checked) own started (by kernel_rfl) Try.func5
    (ChangeSpec.witness6 (enc := enc) (C := Try.checked) false ⟨#[], #[.int .u8 0, .int .u8 0, .int .u16 0, .slice none 0 0, .int .u8 0], []⟩ 8 (by kernel_rfl) (by kernel_rfl) (by kernel_rfl) (by kernel_rfl)) ?_
  intro W base args ds gs before hval0 hW hcnd hsz0 _
  have hsz : (DataW.weightsEach Try.prog (Try.f5.params.toList ++ Rows.scanFromSpec.plain.varTypes Try.prog) (ds ++ gs)).all (· ≤ reachBytes) = true := hsz0
  have hval : ∀ (j : Nat) t v, Try.f5.params[j]? = some t → args[j]? = some v → Value.okWide Try.prog W .any base t v := hval0
  have hW' := hW
  obtain ⟨p, q, hA0, hV, rfl, hfz, hnd⟩ := hW
  have hA : DataW.TrodAll enc Try.prog W 0 (fun _ => true) true Try.f5.params.toList args.toList ds p := hA0
  rw [Try.params5] at hA hval hsz
  obtain ⟨v0, v1, v2, v3, v4, d0, d1, d2, d3, d4, p0, p1, p2, p3, p4, rfl, rfl, rfl, h0, h1, h2, h3, h4⟩ := trodAll_five hA
  obtain ⟨rfl, rfl⟩ := trodVars_none hV
  clear hA0 hval0 hsz0
  obtain ⟨a0, rfl, rfl, rfl, w0⟩ := open_int Try.underlying5 (hval 0 5 v0 rfl rfl) h0
  have r0 := bounds_u8 w0
  obtain ⟨a1, rfl, rfl, rfl, w1⟩ := open_int Try.underlying5 (hval 1 5 v1 rfl rfl) h1
  have r1 := bounds_u8 w1
  obtain ⟨a2, rfl, rfl, rfl, w2⟩ := open_int Try.underlying22 (hval 2 22 v2 rfl rfl) h2
  have r2 := bounds_u16 w2
  obtain ⟨ao3, len3, cap3, rfl⟩ := okWide_slice Try.underlying24 (hval 3 24 v3 rfl rfl)
  obtain ⟨fuel3, hf3⟩ := h3
  obtain ⟨es3, ho3⟩ := open_pls (by simpa [Value.cells] using hf3) (Fits.arg hsz (j := 3) rfl rfl)
  obtain ⟨a4, rfl, rfl, rfl, w4⟩ := open_int Try.underlying5 (hval 4 5 v4 rfl rfl) h4
  have r4 := bounds_u8 w4
  refine (from_walk a0 a1 a2 a4 _ es3 W r0 r1 r2 r4 ho3).mono fun e W' ⟨he, hg⟩ => ?_
  subst he
  exact ⟨_, rfl, post_law rfl hW' (hg.below (Below.refl _ _) (Nat.le_refl _) (by simp)) (by kernel_rfl) (by kernel_rfl) rfl rfl rfl⟩

theorem proved : Rows.ScanFromSaid :=
  OpenClaim.holds_of_wide 5 Try.f5 rfl rfl rfl rfl rfl rfl rfl ⟨rfl, rfl, rfl, rfl, rfl⟩ rfl rfl rfl rfl rfl (by kernel_rfl) Try.func5 (by kernel_rfl)
    (of_decide_eq_true (by kernel_rfl)) (by unfold Func.isWrapper; first | (rw [if_pos (by decide +kernel)]; kernel_rfl) | (rw [if_neg (by decide +kernel)]; exact ⟨rfl, rfl⟩))
    (fun os started H enc _ => lifted os started H enc)
#print axioms proved
end Go.Proofs.Ytnkdgmnmmmjgjaa.scanFrom
