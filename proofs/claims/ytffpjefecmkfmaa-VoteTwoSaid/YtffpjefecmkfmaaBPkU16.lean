/-
  Two bytes, put. By an AI agent.
-/
import Derived.Test.YtffpjefecmkfmaaBPkPut
namespace Go.Proofs.Ytffpjefecmkfmaa
open Go.RowKit

set_option maxHeartbeats 400000 in
theorem u16_any (b g : Nat) (s : PS) (v : Int) (w : World) (h : Pk w b g s) (hv0 : 0 ≤ v) (hv1 : v ≤ 65535) :
    Calls Try.prog 59 #[.pointer (some ⟨b, 0, none⟩), .int .u16 v] w (Puts w b g s (leBytes 2 v)) := by
  have hn := number_any b g s 2 v w h (by omega) (by omega) hv0 (by omega)
  clear h
  go_enter Try.func59, Try.ntmps59
  go_wp2_with (go_at_call 71; refine hn.mono ?_; rintro e w' ⟨rfl, hp, hc⟩)
  go_end0
  exact ⟨rfl, hp, hc⟩


end Go.Proofs.Ytffpjefecmkfmaa
