/-
  What a scan found, made into sectors again, are the ring's own: of any ring and any checkpoint.
  Conditions: none; the arguments are any that a row lets in.
  By an AI agent; no person has read it.
-/
import Derived.Test.YtnkdgmnmmmjgjaaLaw
import Derived.Test.YtnkdgmnmmmjgjaaGIn
import Derived.Test.YtnkdgmnmmmjgjaaRcInCk
import Derived.Test.YtnkdgmnmmmjgjaaScLawA
namespace Go.Proofs.Ytnkdgmnmmmjgjaa
open Go.RowKit

theorem again_walk (ao : Option Addr) (len cap : Nat) (xs : List Int) (s : Ck) (W : World) (hs : Sl W (.slice ao len cap) xs) (hc : ∀ ao' n c, (Value.slice ao len cap) = .slice ao' n c → n ≤ c) (hy : By xs) (fit : s.Fit) :
    Calls Try.prog 7 #[.slice ao len cap, s.val] W fun e W' => e = .returned (.bool true) ∧ Chg [] W W' := by
  obtain ⟨ep, sq, tl⟩ := s
  have hep : ep < 18446744073709551616 := fit.ep
  have hsq : sq < 18446744073709551616 := fit.sq
  have hs2 : Sl W (.slice ao len cap) (ints (nats xs)) := by rw [ints_nats hy]; exact hs
  have hlen : len = (nats xs).length := by
    obtain ⟨o2, c2, e2⟩ := hs2.slice
    rw [ints_length] at e2
    injection e2
  by_cases h : 300000 < len
  · exact (again_far ao len cap ep sq tl W h).mono fun e W' k => ⟨k.1, k.2.out⟩
  by_cases ok : OfAsks len ep sq tl
  case neg => exact (again_bad ao len cap ep sq tl W ok h hep hsq).mono fun e W' k => ⟨k.1, k.2.out⟩
  have h0 : (0 : Int) ≤ tl := ok.2.2.2.1.2.1
  obtain ⟨t, rfl⟩ := Int.eq_ofNat_of_zero_le h0
  have h5 : 5 ≤ len / 128 := ok.2.1
  obtain ⟨rb, ro, rfl⟩ : ∃ rb ro, ao = some ⟨rb, ro, none⟩ := by
    rcases hs2 with ⟨hv, hx⟩ | ⟨b, o, c, hv, hlt, _⟩
    · obtain ⟨a3, c3, h6⟩ := hx
      injection h6 with _ h7 _
      omega
    · injection hv with h6 _ _
      exact ⟨b, o, h6⟩
  exact (again_ok rb ro len cap ep sq t _ (nats xs) W hs2 (nats_bs hy) (hc _ _ _ rfl) (by rw [← hlen]; exact ok) h rfl).mono fun e W' k => ⟨k.1, k.2.out⟩

end Go.Proofs.Ytnkdgmnmmmjgjaa
namespace Go.Proofs.Ytnkdgmnmmmjgjaa.scanAgain
open Go.ChangeShapes Go.WideShapes Go.ChangeAt Go.RowKit

set_option maxRecDepth 100000 in
theorem lifted (os : Os) (started : os.Started) (H : Type) (enc : TypeId × Value → H) :
    ReturnsInHanded {} Try.checked os 7 .any (Rows.scanAgainSpec.pre6 enc Try.prog Try.f7 Rows.scanAgainRow.domain false) (Rows.scanAgainSpec.post enc Try.prog Try.f7 false true false false) := by
  refine returnsInHanded_of_change_sized (C := Try.checked) own started (by kernel_rfl) Try.func7
    (ChangeSpec.witness6 (enc := enc) (C := Try.checked) false ⟨#[], #[.slice none 0 0, .agg #[.int .u64 0, .int .u64 0, .int .i64 0]], []⟩ 8 (by kernel_rfl) (by kernel_rfl) (by kernel_rfl) (by kernel_rfl)) ?_
  intro W base args ds gs before hval0 hW hcnd hsz0 _
  have hsz : (DataW.weightsEach Try.prog (Try.f7.params.toList ++ Rows.scanAgainSpec.plain.varTypes Try.prog) (ds ++ gs)).all (· ≤ reachBytes) = true := hsz0
  have hval : ∀ (j : Nat) t v, Try.f7.params[j]? = some t → args[j]? = some v → Value.okWide Try.prog W .any base t v := hval0
  have hW' := hW
  obtain ⟨p, q, hA0, hV, rfl, hfz, hnd⟩ := hW
  have hA : DataW.TrodAll enc Try.prog W 0 (fun _ => true) true Try.f7.params.toList args.toList ds p := hA0
  rw [Try.params7] at hA hval hsz
  obtain ⟨v0, v1, d0, d1, p0, p1, rfl, rfl, rfl, h0, h1⟩ := trodAll_two hA
  obtain ⟨rfl, rfl⟩ := trodVars_none hV
  clear hA0 hval0 hsz0
  obtain ⟨ao0, len0, cap0, rfl⟩ := okWide_slice Try.underlying23 (hval 0 23 v0 rfl rfl)
  obtain ⟨fuel0, hf0⟩ := h0
  obtain ⟨xs0, hs0, hy0, hb0⟩ := open_bytes_fit (by simpa [Value.cells] using hf0) (Fits.arg hsz (j := 0) rfl rfl)
  have hc0 := open_bytes_cap (by simpa [Value.cells] using hf0)
  obtain ⟨s1, fit1, rfl⟩ := open_check (hval 1 39 v1 rfl rfl) h1
  refine (again_walk _ _ _ _ s1 W hs0 hc0 hy0 fit1).mono fun e W' ⟨he, hg⟩ => ?_
  subst he
  exact ⟨_, rfl, post_law rfl hW' (hg.below (Below.refl _ _) (Nat.le_refl _) (by simp)) (by kernel_rfl) (by kernel_rfl) rfl rfl rfl⟩

theorem proved : Rows.ScanAgainSaid :=
  OpenClaim.holds_of_wide 7 Try.f7 rfl rfl rfl rfl rfl rfl rfl ⟨rfl, rfl, rfl, rfl, rfl⟩ rfl rfl rfl rfl rfl (by kernel_rfl) Try.func7 (by kernel_rfl)
    (of_decide_eq_true (by kernel_rfl)) (by unfold Func.isWrapper; first | (rw [if_pos (by decide +kernel)]; kernel_rfl) | (rw [if_neg (by decide +kernel)]; exact ⟨rfl, rfl⟩))
    (fun os started H enc _ => lifted os started H enc)
#print axioms proved
end Go.Proofs.Ytnkdgmnmmmjgjaa.scanAgain
