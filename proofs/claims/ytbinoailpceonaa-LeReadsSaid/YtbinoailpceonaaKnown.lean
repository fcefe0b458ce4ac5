/-
  'known' says yes. By an AI agent.
-/
import Derived.Test.YtbinoailpceonaaLeNew
import Derived.Test.YtbinoailpceonaaSame
namespace Go.Proofs.Ytbinoailpceonaa
open Go.RowKit

set_option maxHeartbeats 400000 in
theorem known_any (w : World) : Calls Try.prog 11 #[] w fun e w' => e = .returned (.bool true) ∧ Chg [] w w' := by
  go_enter Try.func11, Try.ntmps11
  go_wp2_with fail
  refine (new_ok 4 w (by decide)).mono ?_
  rintro e w1 ⟨b, g, rfl, hpk, hc1, hb1, hg1, hb2, hg2⟩
  have HP1 := Lib.hid hpk
  have HC1 := Lib.hid hc1
  clear hpk hc1
  go_wp2_with fail
  refine (u16_any b g _ 513 w1 HP1.out (by decide) (by decide)).mono ?_
  rintro e w2 ⟨rfl, hp2, hc2⟩
  have HP2 := Lib.hid hp2
  have HC2 := Lib.hid hc2
  clear hp2 hc2
  go_wp2_with fail
  refine (u8_any b g _ 7 w2 HP2.out (by decide) (by decide)).mono ?_
  rintro e w3 ⟨rfl, hp3, hc3⟩
  have HP3 := Lib.hid hp3
  have HC3 := Lib.hid hc3
  clear hp3 hc3
  go_wp2_with fail
  refine (bytes_any b g _ w3 HP3.out).mono ?_
  have es : ((PS.mk (List.replicate 4 0) 0 0).put (leBytes 2 513)).put (leBytes 1 7) = ⟨[1, 2, 7, 0], 3, 0⟩ := by simp [PS.put, lay, leBytes]
  rw [es] at HP3
  rw [es]
  rintro e w4 h4
  rcases h4 with ⟨h, _⟩ | ⟨_, v, rfl, hv, hc4⟩
  · exact absurd rfl h
  have HV := Lib.hid hv
  have HC4 := Lib.hid hc4
  clear hv hc4 es
  have HP4 := Lib.hid (HP3.out.chg HC4.out (by simp) (by simp))
  go_wp2_with (go_at_call 33; refine (at_any b g _ _ HP4.out).mono ?_; rintro e w' ⟨rfl, rfl⟩)
  have s1 : Sl (w4.alloc (.cells #[.int .u8 1, .int .u8 2, .int .u8 7, .int .u8 0] 5)) v [1, 2, 7, 0] := (Sl.owned HV.out).chg (s := []) ((Chg.refl _ _).alloc _) (by simp)
  have hb4 := Blk.made w4 [.int .u8 1, .int .u8 2, .int .u8 7, .int .u8 0] 5
  have s2 : Sl (w4.alloc (.cells #[.int .u8 1, .int .u8 2, .int .u8 7, .int .u8 0] 5)) (.slice (some ⟨w4.heap.size, 0, none⟩) 4 4) [1, 2, 7, 0] := .inr ⟨_, _, _, rfl, hb4.lt, fun j hj => by
    have hj4 : j < 4 := hj
    refine hb4.cell ?_
    match j, hj4 with
    | 0, _ => rfl
    | 1, _ => rfl
    | 2, _ => rfl
    | 3, _ => rfl⟩
  refine (same_true _ _ _ _ s1 s2 (by decide)).mono ?_
  clear s1 s2 hb4
  rintro e w5 ⟨rfl, q, rfl⟩
  go_wp2_with fail
  go_ret
  exact ⟨rfl, (((((HC1.out.fresh HC2.out (by simp; omega)).fresh HC3.out (by simp; omega)).trans HC4.out).alloc _).drewN _)⟩
end Go.Proofs.Ytbinoailpceonaa
