/-
  What is found in a ring is what the document says, the ring stays as it was, and what came out is nobody else's: of any ring and any checkpoint.
  Conditions: none; the arguments are any that a row lets in.
  By an AI agent; no person has read it.
-/
import Derived.Test.YtnkdgmnmmmjgjaaGreatBLaw
import Derived.Test.YtnkdgmnmmmjgjaaGreatBGIn
import Derived.Test.YtnkdgmnmmmjgjaaGreatBRcInCk
import Derived.Test.YtnkdgmnmmmjgjaaGreatBScLawD
namespace Go.Proofs.YtnkdgmnmmmjgjaaGreat
open Go.RowKit

theorem reads_walk (ao : Option Addr) (len cap : Nat) (xs : List Int) (s : Ck) (W : World) (hs : Sl W (.slice ao len cap) xs) (hc : ∀ ao' n c, (Value.slice ao len cap) = .slice ao' n c → n ≤ c) (hy : By xs) (fit : s.Fit) :
    Calls Tryz.prog 4 #[.slice ao len cap, s.val] W fun e W' => e = .returned (.bool true) ∧ Chg [] W W' := by
  obtain ⟨ep, sq, tl⟩ := s
  have hs2 : Sl W (.slice ao len cap) (ints (nats xs)) := by rw [ints_nats hy]; exact hs
  by_cases h : 300000 < len
  · exact reads_far ao len cap ep sq tl W h
  exact reads_any ao len cap ep sq tl (nats xs) W hs2 (nats_bs hy) (hc _ _ _ rfl) fit.ep fit.sq h

end Go.Proofs.YtnkdgmnmmmjgjaaGreat
namespace Go.Proofs.YtnkdgmnmmmjgjaaGreat.scanReads
open Go.ChangeShapes Go.WideShapes Go.ChangeAt Go.RowKit

set_option maxRecDepth 100000 in
theorem lifted (os : Os) (started : os.Started) (H : Type) (enc : TypeId × Value → H) :
    ReturnsInHanded {} Tryz.checked os 4 .any (Rows.scanReadsSpec.pre6 enc Tryz.prog Tryz.f4 Rows.scanReadsRow.domain false) (Rows.scanReadsSpec.post enc Tryz.prog Tryz.f4 false true false false) := by
  refine returnsInHanded_of_change_sized (C := Tryz.checked) own started (by kernel_rfl) Tryz.func4
    (ChangeSpec.witness6 (enc := enc) (C := Tryz.checked) false ⟨#[], #[.slice none 0 0, .agg #[.int .u64 0, .int .u64 0, .int .i64 0]], []⟩ 8 (by kernel_rfl) (by kernel_rfl) (by kernel_rfl) (by kernel_rfl)) ?_
  intro W base args ds gs before hval0 hW hcnd hsz0 _
  have hsz : (DataW.weightsEach Tryz.prog (Tryz.f4.params.toList ++ Rows.scanReadsSpec.plain.varTypes Tryz.prog) (ds ++ gs)).all (· ≤ reachBytes) = true := hsz0
  have hval : ∀ (j : Nat) t v, Tryz.f4.params[j]? = some t → args[j]? = some v → Value.okWide Tryz.prog W .any base t v := hval0
  have hW' := hW
  obtain ⟨p, q, hA0, hV, rfl, hfz, hnd⟩ := hW
  have hA : DataW.TrodAll enc Tryz.prog W 0 (fun _ => true) true Tryz.f4.params.toList args.toList ds p := hA0
  rw [Tryz.params4] at hA hval hsz
  obtain ⟨v0, v1, d0, d1, p0, p1, rfl, rfl, rfl, h0, h1⟩ := trodAll_two hA
  obtain ⟨rfl, rfl⟩ := trodVars_none hV
  clear hA0 hval0 hsz0
  obtain ⟨ao0, len0, cap0, rfl⟩ := okWide_slice Tryz.underlying55 (hval 0 55 v0 rfl rfl)
  obtain ⟨fuel0, hf0⟩ := h0
  obtain ⟨xs0, hs0, hy0, hb0⟩ := open_bytes_fit (by simpa [Value.cells] using hf0) (Fits.arg hsz (j := 0) rfl rfl)
  have hc0 := open_bytes_cap (by simpa [Value.cells] using hf0)
  obtain ⟨s1, fit1, rfl⟩ := open_check (hval 1 57 v1 rfl rfl) h1
  refine (reads_walk _ _ _ _ s1 W hs0 hc0 hy0 fit1).mono fun e W' ⟨he, hg⟩ => ?_
  subst he
  exact ⟨_, rfl, post_law rfl hW' (hg.below (Below.refl _ _) (Nat.le_refl _) (by simp)) (by kernel_rfl) (by kernel_rfl) rfl rfl rfl⟩

theorem proved : Rows.ScanReadsSaid :=
  OpenClaim.holds_of_wide 4 Tryz.f4 rfl rfl rfl rfl rfl rfl rfl ⟨rfl, rfl, rfl, rfl, rfl⟩ rfl rfl rfl rfl rfl (by kernel_rfl) Tryz.func4 (by kernel_rfl)
    (of_decide_eq_true (by kernel_rfl)) (by unfold Func.isWrapper; first | (rw [if_pos (by decide +kernel)]; kernel_rfl) | (rw [if_neg (by decide +kernel)]; exact ⟨rfl, rfl⟩))
    (fun os started H enc _ => lifted os started H enc)
#print axioms proved
end Go.Proofs.YtnkdgmnmmmjgjaaGreat.scanReads
