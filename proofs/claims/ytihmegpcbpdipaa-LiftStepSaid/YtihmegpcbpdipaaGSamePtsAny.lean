/-
  SamePatches of two lists that are as long, whatever they hold. By an AI agent.
-/
import Derived.Test.YtihmegpcbpdipaaGSameAny
import Derived.Test.YtihmegpcbpdipaaGPt
namespace Go.Proofs.Ytihmegpcbpdipaa
open Go.RowKit

/-- Whether all of them are alike. -/
def Alikes (as_ bs : List PtD) : Prop := ∀ (i : Nat) (p q : PtD), as_[i]? = some p → bs[i]? = some q → p.alike q

set_option maxHeartbeats 2000000 in
set_option maxRecDepth 100000 in
theorem samePts_any (va vb : Value) (as_ bs : List PtD) (w : World) (ha : Pts w va as_) (hb : Pts w vb bs) (hl : as_.length = bs.length) :
    Calls Try.prog 13 #[va, vb] w fun e w' => (∃ b : Bool, e = .returned (.bool b) ∧ (b = true ↔ Alikes as_ bs)) ∧ ∃ q, w' = w.drewN q := by
  have hbig := ha.len
  obtain ⟨ao, ac, rfl⟩ := ha.slice
  obtain ⟨bo, bc, rfl⟩ := hb.slice
  rw [← hl]
  have HA := Lib.hid ha
  have HB := Lib.hid hb
  have HL := Lib.hid hl
  clear ha hb hl
  go_enter Try.func13, Try.ntmps13
  go_wp2_with fail
  go_loopw [5] (fun i wr => ∃ k : Nat, k ≤ as_.length ∧ i = .int .i64 k ∧ Hid (∀ j p q, j < k → as_[j]? = some p → bs[j]? = some q → p.alike q) ∧ ∃ q, wr = w.drewN q) (fun i _ => as_.length - (intOf i).toNat)
  case atStart => exact ⟨0, Nat.zero_le _, rfl, (fun j p q hj => by omega), 0, rfl⟩
  case round =>
    obtain ⟨k, hk, rfl, UP, q, rfl⟩ := hrel
    by_cases hlt : k < as_.length
    · obtain ⟨x, hx⟩ : ∃ x, as_[k]? = some x := ⟨_, List.getElem?_eq_getElem hlt⟩
      obtain ⟨y, hy⟩ : ∃ y, bs[k]? = some y := ⟨_, List.getElem?_eq_getElem (by rw [← HL.out]; exact hlt)⟩
      have HX := Lib.hid hx
      have HY := Lib.hid hy
      have UP2 : Hid (x.alike y → ∀ j p q, j < k + 1 → as_[j]? = some p → bs[j]? = some q → p.alike q) := fun h j p q hj hp hq => by
        by_cases e : j = k
        · subst e
          rw [HX.out] at hp
          rw [HY.out] at hq
          obtain rfl := Option.some.inj hp
          obtain rfl := Option.some.inj hq
          exact h
        · exact UP.out j p q (by omega) hp hq
      have NO : Hid (¬ x.alike y → (false = true ↔ Alikes as_ bs)) := fun h => ⟨fun e => (by cases e), fun A => absurd (A k x y HX.out HY.out) h⟩
      obtain ⟨g, o, rfl, hg, I⟩ := HA.out.at hx
      obtain ⟨g2, o2, rfl, hg2, J⟩ := HB.out.at hy
      have c0 := I.c0
      have c1 := I.c1
      have c2 := I.c2
      have d0 := J.c0
      have d1 := J.c1
      have d2 := J.c2
      have SA := I.sl
      have SB := J.sl
      have big := Lib.hid I.big
      have big2 := Lib.hid J.big
      obtain ⟨xm, xr, xv, xd⟩ := x
      obtain ⟨ym, yr, yv, yd⟩ := y
      dsimp only at c0 c1 c2 d0 d1 d2 SA SB big big2
      obtain ⟨xo, xc, rfl⟩ := SA.slice
      obtain ⟨yo, yc, rfl⟩ := SB.slice
      replace SA := Lib.hid (SA.chgNil ((Chg.refl _ _).drewN q))
      replace SB := Lib.hid (SB.chgNil ((Chg.refl _ _).drewN q))
      obtain ⟨W, hW⟩ : ∃ W, W = w.drewN q := ⟨_, rfl⟩
      have b0 : W.cell? ⟨g, o + k * 3, none⟩ = some (.int .i64 xm) := by rw [hW]; exact c0
      have b1 : W.cell? ⟨g, o + k * 3 + 1, none⟩ = some (.int .i64 xr) := by rw [hW]; exact c1
      have b2 : W.cell? ⟨g, o + k * 3 + 2, none⟩ = some (.slice xo xd.length xc) := by rw [hW]; exact c2
      have b3 : W.cell? ⟨g2, o2 + k * 3, none⟩ = some (.int .i64 ym) := by rw [hW]; exact d0
      have b4 : W.cell? ⟨g2, o2 + k * 3 + 1, none⟩ = some (.int .i64 yr) := by rw [hW]; exact d1
      have b5 : W.cell? ⟨g2, o2 + k * 3 + 2, none⟩ = some (.slice yo yd.length yc) := by rw [hW]; exact d2
      rw [← hW] at SA SB ⊢
      replace hW := Lib.hid hW
      clear I J hx hy c0 c1 c2 d0 d1 d2 HX HY HL UP
      have hi0 : (0 : Int) ≤ k := Int.natCast_nonneg _
      have hi1 : (k : Int) < as_.length := by omega
      have WK := Lib.hid hk
      have WL := Lib.hid hlt
      by_cases e1 : xm = ym
      case neg =>
        have t1 : (xm != ym) = true := by simpa using e1
        have NF := Lib.hid (NO.out (fun h => e1 h.1))
        clear NO UP2 e1
        go_wp2_with fail
        go_quiet (fail)
        go_wp2_with fail
        go_ret
        exact ⟨⟨_, rfl, NF.out⟩, _, by rw [hW.out, World.drewN_drewN]⟩
      subst e1
      by_cases e2 : xr = yr
      case neg =>
        have t1 : (xr != yr) = true := by simpa using e2
        have NF := Lib.hid (NO.out (fun h => e2 h.2.1))
        clear NO UP2 e2
        go_wp2_with fail
        go_quiet (fail)
        go_wp2_with fail
        go_ret
        exact ⟨⟨_, rfl, NF.out⟩, _, by rw [hW.out, World.drewN_drewN]⟩
      subst e2
      by_cases e3 : xd = yd
      · have UF := Lib.hid (UP2.out ⟨rfl, rfl, e3⟩)
        have SC : Hid (∀ n, Calls Try.prog 26 #[.slice xo xd.length xc, .slice yo yd.length yc] (W.drewN n) fun e w' => e = .returned (.bool true) ∧ ∃ q, w' = (W.drewN n).drewN q) := fun n => by
          have h := same_any _ _ _ _ (W.drewN n) (SA.out.chgNil ((Chg.refl _ _).drewN n)) (SB.out.chgNil ((Chg.refl _ _).drewN n)) big.out big2.out
          rw [decide_eq_true e3] at h
          exact h
        clear NO UP2 e3
        go_wp2_with fail
        go_quiet (first | (go_at_call 26; exact Calls.quiet_of (SC.out _)))
        go_wp2_with fail
        exact ⟨⟨k + 1, by have := WL.out; omega, by go_num, UF, _, by rw [hW.out, World.drewN_drewN]⟩, by have := WL.out; simp [intOf]; omega⟩
      · have NF := Lib.hid (NO.out (fun h => e3 h.2.2))
        have SC : Hid (∀ n, Calls Try.prog 26 #[.slice xo xd.length xc, .slice yo yd.length yc] (W.drewN n) fun e w' => e = .returned (.bool false) ∧ ∃ q, w' = (W.drewN n).drewN q) := fun n => by
          have h := same_any _ _ _ _ (W.drewN n) (SA.out.chgNil ((Chg.refl _ _).drewN n)) (SB.out.chgNil ((Chg.refl _ _).drewN n)) big.out big2.out
          rw [decide_eq_false e3] at h
          exact h
        clear NO UP2 e3
        go_wp2_with fail
        go_quiet (first | (go_at_call 26; exact Calls.quiet_of (SC.out _)))
        go_wp2_with fail
        go_ret
        exact ⟨⟨_, rfl, NF.out⟩, _, by rw [hW.out, World.drewN_drewN]⟩
    · go_wp2_with fail
      go_ret
      exact ⟨⟨true, rfl, by simp only [true_iff]; exact fun i p q hp hq => UP.out i p q (by have := (List.getElem?_eq_some_iff.1 hp).1; omega) hp hq⟩, _, rfl⟩

end Go.Proofs.Ytihmegpcbpdipaa
