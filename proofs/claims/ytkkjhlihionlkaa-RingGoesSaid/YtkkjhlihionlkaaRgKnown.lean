/-
  'known' of the ring. By an AI agent.
-/
import Derived.Test.YtkkjhlihionlkaaRgSide
namespace Go.Proofs.Ytkkjhlihionlkaa
open Go.RowKit

theorem rg530 : Rg 5 3 0 := ⟨by decide, by decide, by decide, by decide⟩
theorem rg534 : Rg 5 3 4 := ⟨by decide, by decide, by decide, by decide⟩
theorem rg511 : Rg 5 1 1 := ⟨by decide, by decide, by decide, by decide⟩

set_option maxHeartbeats 4000000 in
set_option maxRecDepth 100000 in
theorem known_any (w : World) : Calls Try.prog 10 #[] w (Says w (.bool true)) := by
  have N : Hid (∀ w', Calls Try.prog 8 #[.int .i64 5, .int .i64 3, .int .i64 0] w' fun e w'' => e = .returned (.tuple #[.pointer (some ⟨w'.heap.size, 0, none⟩), .int .u16 0]) ∧ Hid (RingB w'' w'.heap.size 5 3 0) ∧ Hid (Chg [] w' w'')) := fun w' => new_ok rg530 w'
  have T4 : Hid (∀ R w', RingB w' R 5 3 0 → Calls Try.prog 20 #[.pointer (some ⟨R, 0, none⟩), .int .i64 4] w' fun e w'' => ∃ v, e = .returned (.tuple #[v, .int .u16 0]) ∧ Hid (SpRow w'' w'.heap.size v [(3, 2), (0, 2)]) ∧ Hid (RingB w'' R 5 3 4) ∧ Hid (Chg [R] w' w'')) := fun R w' hb => take_ok rg530 w' hb 4 (by decide)
  have T2 : Hid (∀ R w', RingB w' R 5 3 4 → Calls Try.prog 20 #[.pointer (some ⟨R, 0, none⟩), .int .i64 2] w' (Refused w' 90)) := fun R w' hb => take_full rg534 w' hb 2 (by decide)
  have G3 : Hid (∀ R w', RingB w' R 5 3 4 → Calls Try.prog 21 #[.pointer (some ⟨R, 0, none⟩), .int .i64 3] w' fun e w'' => ∃ v, e = .returned (.tuple #[v, .int .u16 0]) ∧ Hid (SpRow w'' w'.heap.size v [(3, 2), (0, 1)]) ∧ Hid (RingB w'' R 5 1 1) ∧ Hid (Chg [R] w' w'')) := fun R w' hb => give_ok rg534 w' hb 3 (by decide)
  have q1 := fun w' => eql_span 3 2 3 2 w'
  have q2 := fun w' => eql_span 0 2 0 2 w'
  go_enter Try.func10, Try.ntmps10
  go_wp2_with fail
  refine (N.out _).mono ?_
  rintro e w1 ⟨rfl, B, C⟩
  have H := Lib.hid ((Side.nil (Chg.refl _ w)).ring B.out C.out)
  clear B C N
  generalize w.heap.size = R at *
  go_wp2_with fail
  refine (T4.out _ _ (H.out.get 0 rfl)).mono ?_
  rintro e w2 ⟨v, rfl, O, B, C⟩
  replace H := Lib.hid (H.out.took 0 rfl O.out B.out C.out)
  obtain ⟨vo, vc, rfl⟩ := O.out.slice
  clear O B C T4
  go_wp2_with fail
  refine (T2.out _ _ (H.out.get 1 rfl)).mono ?_
  rintro e w3 ⟨rfl, C⟩
  replace H := Lib.hid (H.out.quiet C.out)
  clear C T2
  go_wp2_with fail
  refine (G3.out _ _ (H.out.get 1 rfl)).mono ?_
  rintro e w4 ⟨u, rfl, O, B, C⟩
  replace H := Lib.hid (H.out.took 1 rfl O.out B.out C.out)
  obtain ⟨uo, uc, rfl⟩ := O.out.slice
  clear O B C G3
  have hv : SpRow w4 0 _ [(3, 2), (0, 2)] := H.out.get 1 rfl
  have hu : SpRow w4 0 _ [(3, 2), (0, 1)] := H.out.get 0 rfl
  obtain ⟨g, rfl, a0, a1⟩ := hv.at (j := 0) rfl
  obtain ⟨g', hg', a2, a3⟩ := hv.at (j := 1) rfl
  obtain rfl : g = g' := by simpa using hg'
  obtain ⟨k, rfl, _, b1⟩ := hu.at (j := 1) rfl
  have D := Lib.hid (head_any rg511 w4 (H.out.get 2 rfl))
  have E := Lib.hid (tail_any rg511 w4 (H.out.get 2 rfl))
  replace D : Hid (Calls Try.prog 14 #[.pointer (some ⟨R, 0, none⟩)] w4 (Says w4 (.int .i64 2))) := D
  have HD : Hid (∀ w', Chg [] w4 w' → Calls Try.prog 14 #[.pointer (some ⟨R, 0, none⟩)] w' (Says w' (.int .i64 2))) := fun w' c => head_any rg511 w' ((H.out.quiet c).get 2 rfl)
  clear hv hu hg' D
  simp only [Nat.zero_mul, Nat.one_mul, Nat.zero_add, Nat.reduceAdd] at a0 a1 a2 a3 b1
  go_wp2_with (first
    | (go_at_call 15; refine E.out.mono ?_; rintro e w5 ⟨rfl, C5⟩)
    | (go_at_call 14; refine (HD.out _ C5.out).mono ?_; rintro e w6 ⟨rfl, C6⟩))
  go_ret
  exact ⟨rfl, (H.out.chg.trans C5.out).trans C6.out⟩

end Go.Proofs.Ytkkjhlihionlkaa
