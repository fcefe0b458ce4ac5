/-
  'stands' and 'told'. By an AI agent.
-/
import Derived.Test.YtbinoailpceonaaRefMustAny
import Derived.Test.YtbinoailpceonaaLent
import Derived.Test.YtbinoailpceonaaBook
namespace Go.Proofs.Ytbinoailpceonaa
open Go.RowKit

set_option maxHeartbeats 1000000 in
set_option maxRecDepth 100000 in
theorem stands_any (b g b3 : Nat) (hv : Value) (r : RP) (w : World) (hp : Pk w b g r.ps) (hr : Rp w b3 hv r) :
    Calls Try.prog 19 #[.pointer (some ⟨b, 0, none⟩), .pointer (some ⟨b3, 0, none⟩)] w fun e w' => e = .returned (.bool true) ∧ ∃ q, w' = w.drewN q := by
  have a1 := fun q => at_any b g _ (w.drewN q) (hp.drewN q)
  have a2 := fun q => leftP_any b g _ (w.drewN q) (hp.drewN q)
  have a3 := fun q => refLeft_any b3 hv r (w.drewN q) (hr.chg (t := []) ((Chg.refl _ _).drewN q) (by simp) (by simp))
  have a4 := fun q => err_any b g _ (w.drewN q) (hp.drewN q)
  rw [RP.ps_len hr.le] at a2
  rw [show r.ps.pos = r.had.length from rfl] at a1 a2
  rw [show r.ps.bad = r.bad from rfl] at a4
  obtain ⟨ao, c, rfl⟩ := owns_slice hr.own
  have c1 := hr.c1
  have c2 := hr.c2
  clear hp hr
  go_enter Try.func19, Try.ntmps19
  go_wp2_with fail
  go_quiet (first
    | (go_at_call 33; refine Calls.quiet_of_same ((a1 _).mono fun _ _ h => ⟨h.1, h.2.symm⟩))
    | (go_at_call 29; refine Calls.quiet_of (a2 _))
    | (go_at_call 50; refine Calls.quiet_of (a3 _))
    | (go_at_call 43; refine Calls.quiet_of_same ((a4 _).mono fun _ _ h => ⟨h.1, h.2.symm⟩)))
  go_wp2_with fail
  go_ret
  exact ⟨rfl, _, rfl⟩

end Go.Proofs.Ytbinoailpceonaa
