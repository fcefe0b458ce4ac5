/-
  Two bytes, read. By an AI agent.
-/
import Derived.Test.YtffpjefecmkfmaaBRdNext
namespace Go.Proofs.Ytffpjefecmkfmaa
open Go.RowKit

set_option maxHeartbeats 400000 in
theorem u16R_any (b : Nat) (v : Value) (s : RS) (w : World) (h : Rd w b v s) :
    Calls Try.prog 60 #[.pointer (some ⟨b, 0, none⟩)] w fun e w' => e = .returned (.int .u16 (leNum (s.got 2))) ∧ Rd w' b v (s.next 2) ∧ Chg [b] w w' := by
  have hn := numberR_any b v s 2 w h (by omega)
  have hr := leNum_range _ (RS.got_by h.byt 2)
  have hl := RS.got_len s 2
  have hp : (2 : Int) ^ (8 * (s.got 2).length) ≤ 2 ^ (8 * 2) := pow2_le (by omega)
  have e : (2 : Int) ^ (8 * 2) = 65535 + 1 := by decide
  have h0 : 0 ≤ leNum (s.got 2) := hr.1
  have h1 : leNum (s.got 2) ≤ 65535 := by omega
  clear h hr hl hp e
  generalize hx : leNum (s.got 2) = x at *
  have HX := Lib.hid hx
  clear hx
  go_enter Try.func60, Try.ntmps60
  go_wp2_with (go_at_call 72; refine hn.mono ?_; rintro e w' ⟨he, hp, hc⟩; rw [HX.out] at he; subst he)
  go_ret
  exact ⟨rfl, hp, hc⟩


end Go.Proofs.Ytffpjefecmkfmaa
