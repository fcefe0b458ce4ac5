/-
  Two lists of patches that are alike: SamePatches says so. By an AI agent.
-/
import Derived.Test.YtkafkdlgflkjgaaGreatBG
import Derived.Test.YtkafkdlgflkjgaaGreatBGIn
namespace Go.Proofs.YtkafkdlgflkjgaaGreat
open Go.RowKit

set_option maxHeartbeats 1000000 in
set_option maxRecDepth 100000 in
theorem samePts_true (va vb : Value) (as_ bs : List PtD) (w : World) (ha : Pts w va as_) (hb : Pts w vb bs) (hl : as_.length = bs.length) (hal : ∀ (i : Nat) (p q : PtD), as_[i]? = some p → bs[i]? = some q → p.alike q) :
    Calls Tryz.prog 118 #[va, vb] w fun e w' => e = .returned (.bool true) ∧ ∃ q, w' = w.drewN q := by
  have hbig := ha.len
  obtain ⟨ao, ac, rfl⟩ := ha.slice
  obtain ⟨bo, bc, rfl⟩ := hb.slice
  rw [← hl]
  have HA := Lib.hid ha
  have HB := Lib.hid hb
  have HL := Lib.hid hl
  have AL := Lib.hid hal
  clear ha hb hl hal
  go_enter Tryz.func118, Tryz.ntmps118
  go_wp2_with fail
  go_loopw [5] (fun i wr => ∃ k : Nat, k ≤ as_.length ∧ i = .int .i64 k ∧ ∃ q, wr = w.drewN q) (fun i _ => as_.length - (intOf i).toNat)
  case atStart => exact ⟨0, Nat.zero_le _, rfl, 0, rfl⟩
  case round =>
    obtain ⟨k, hk, rfl, q, rfl⟩ := hrel
    by_cases hlt : k < as_.length
    · obtain ⟨x, hx⟩ : ∃ x, as_[k]? = some x := ⟨_, List.getElem?_eq_getElem hlt⟩
      obtain ⟨y, hy⟩ : ∃ y, bs[k]? = some y := ⟨_, List.getElem?_eq_getElem (by rw [← HL.out]; exact hlt)⟩
      obtain ⟨e1, e2, e3⟩ := AL.out k x y hx hy
      obtain ⟨g, o, rfl, hg, I⟩ := HA.out.at hx
      obtain ⟨g2, o2, rfl, hg2, J⟩ := HB.out.at hy
      have c0 := I.c0
      have c1 := I.c1
      have c2 := I.c2
      have d0 := J.c0
      have d1 := J.c1
      have d2 := J.c2
      have SA := I.sl
      have SB := J.sl
      rw [← e3] at SB
      rw [← e1] at d0
      rw [← e2] at d1
      have big := Lib.hid I.big
      obtain ⟨xm, xr, xv, xd⟩ := x
      obtain ⟨ym, yr, yv, yd⟩ := y
      dsimp only at c0 c1 c2 d0 d1 d2 SA SB big
      obtain ⟨xo, xc, rfl⟩ := SA.slice
      obtain ⟨yo, yc, rfl⟩ := SB.slice
      replace SA := Lib.hid (SA.chgNil ((Chg.refl _ _).drewN q))
      replace SB := Lib.hid (SB.chgNil ((Chg.refl _ _).drewN q))
      obtain ⟨W, hW⟩ : ∃ W, W = w.drewN q := ⟨_, rfl⟩
      have b0 : W.cell? ⟨g, o + k * 3, none⟩ = some (.int .i64 xm) := by rw [hW]; exact c0
      have b1 : W.cell? ⟨g, o + k * 3 + 1, none⟩ = some (.int .i64 xr) := by rw [hW]; exact c1
      have b2 : W.cell? ⟨g, o + k * 3 + 2, none⟩ = some (.slice xo xd.length xc) := by rw [hW]; exact c2
      have b3 : W.cell? ⟨g2, o2 + k * 3, none⟩ = some (.int .i64 xm) := by rw [hW]; exact d0
      have b4 : W.cell? ⟨g2, o2 + k * 3 + 1, none⟩ = some (.int .i64 xr) := by rw [hW]; exact d1
      have b5 : W.cell? ⟨g2, o2 + k * 3 + 2, none⟩ = some (.slice yo xd.length yc) := by rw [hW]; exact d2
      rw [← hW] at SA SB ⊢
      replace hW := Lib.hid hW
      clear I J hx hy e1 e2 e3 c0 c1 c2 d0 d1 d2
      have hi0 : (0 : Int) ≤ k := Int.natCast_nonneg _
      have hi1 : (k : Int) < as_.length := by omega
      go_wp2_with fail
      go_quiet (first | (go_at_call 47; exact Calls.quiet_of (same_true _ _ _ _ (SA.out.chgNil ((Chg.refl _ _).drewN _)) (SB.out.chgNil ((Chg.refl _ _).drewN _)) big.out)))
      go_wp2_with fail
      exact ⟨⟨k + 1, by omega, by go_num, _, by rw [hW.out, World.drewN_drewN]⟩, by simp [intOf]; omega⟩
    · go_wp2_with fail
      go_ret
      exact ⟨rfl, _, rfl⟩

end Go.Proofs.YtkafkdlgflkjgaaGreat
