/-
  Two sectors that are logged alike are the same. By an AI agent.
-/
import Derived.Test.YtnjemjkjbeingaaRcKnown
import Derived.Test.YtnjemjkjbeingaaRcSame
namespace Go.Proofs.Ytnjemjkjbeingaa
open Go.RowKit Crc

theorem esc_inj {a b : List Nat} (ha : a.length = 128) (hb : b.length = 128) (hv : escV a = escV b) (hp : escB a = escB b) : a = b := by
  unfold escV at hv
  unfold escB at hp
  rw [if_pos ha, if_pos hb] at hv
  rw [decide_eq_true ha, decide_eq_true hb, Bool.true_and, Bool.true_and] at hp
  rw [hp] at hv
  rcases hB : begOf b magicB with _ | _
  · rw [hB] at hv
    exact hv
  · rw [hB, if_pos rfl, if_pos rfl] at hv
    have e1 := List.append_cancel_left hv
    rw [hB] at hp
    have e2 : a.take 4 = magicB := of_decide_eq_true hp
    have e3 : b.take 4 = magicB := of_decide_eq_true hB
    rw [← List.take_append_drop 4 a, ← List.take_append_drop 4 b, e1, e2, e3]

set_option maxHeartbeats 8000000 in
set_option maxRecDepth 100000 in
theorem recordLogged_core (va vb : Value) (a b : List Nat) (w : World) (ha : Sl w va (ints a)) (hb : Sl w vb (ints b)) (haS : Bs a) (hbS : Bs b) (hca : ∀ ao n c, va = .slice ao n c → n ≤ c) (hcb : ∀ ao n c, vb = .slice ao n c → n ≤ c) :
    Calls Try.prog 8 #[va, vb] w fun e w' => e = .returned (.bool true) ∧ Hid (Chg [] w w') := by
  have KN := Lib.hid known_any
  by_cases hl : a.length = 128 ∧ b.length = 128
  case neg =>
    obtain ⟨ao, ac, rfl⟩ := ha.slice
    obtain ⟨bo, bc, rfl⟩ := hb.slice
    rw [ints_length, ints_length]
    by_cases h1 : a.length = 128
    · rw [h1]
      have h2 : ((b.length : Int) != 128) = true := by simpa using show ¬ (b.length : Int) = 128 by omega
      clear ha hb hca hcb hl h1
      go_enter Try.func8, Try.ntmps8
      go_wp2_with fail
      refine (KN.out _).mono ?_
      rintro e w1 ⟨rfl, C⟩
      go_wp2_with fail
      go_ret
      exact ⟨rfl, C⟩
    · have h2 : ((a.length : Int) != 128) = true := by simpa using show ¬ (a.length : Int) = 128 by omega
      clear ha hb hca hcb hl h1
      go_enter Try.func8, Try.ntmps8
      go_wp2_with fail
      refine (KN.out _).mono ?_
      rintro e w1 ⟨rfl, C⟩
      go_wp2_with fail
      go_ret
      exact ⟨rfl, C⟩
  obtain ⟨la, lb⟩ := hl
  have EA := Lib.hid (fun W (C : Chg [] w W) => escape_any va a W (ha.chg C (by simp)) haS (by omega) hca)
  have EB := Lib.hid (fun W (C : Chg [] w W) => escape_any vb b W (hb.chg C (by simp)) hbS (by omega) hcb)
  have ea : escE a = 0 := by unfold escE; rw [if_pos la]
  have eb : escE b = 0 := by unfold escE; rw [if_pos lb]
  have lva : (escV a).length = 128 := by
    unfold escV
    rw [if_pos la]
    split
    · rw [List.length_append, List.length_drop, la]; rfl
    · exact la
  have lvb : (escV b).length = 128 := by
    unfold escV
    rw [if_pos lb]
    split
    · rw [List.length_append, List.length_drop, lb]; rfl
    · exact lb
  have S2 := Lib.hid (fun W (C : Chg [] w W) => sameB_any va vb a b W (ha.chg C (by simp)) (hb.chg C (by simp)) (by omega) (by omega))
  have S1 := Lib.hid (fun W u v (h : Sl W u (ints (escV a))) (k : Sl W v (ints (escV b))) => sameB_any u v (escV a) (escV b) W h k (by omega) (by omega))
  unfold EscIs RcOwn at EA EB
  rw [ea, lva] at EA
  rw [eb, lvb] at EB
  have RI : ((decide (escV a = escV b) && (escB a == escB b)) == decide (a = b)) = true := by
    by_cases hab : a = b
    · subst hab; simp
    · rw [decide_eq_false hab]
      by_cases hv : escV a = escV b
      · have hp : ¬ escB a = escB b := fun h => hab (esc_inj la lb hv h)
        have : (escB a == escB b) = false := beq_eq_false_iff_ne.2 hp
        rw [this]
        simp
      · rw [decide_eq_false hv]; simp
  obtain ⟨ao, ac, rfl⟩ := ha.slice
  obtain ⟨bo, bc, rfl⟩ := hb.slice
  rw [ints_length, la] at EA S2 ⊢
  rw [ints_length, lb] at EB S2 ⊢
  clear ha hb hca hcb haS hbS la lb ea eb lva lvb
  have hla : Hid (True) := trivial
  generalize decide (escV a = escV b) = r1 at *
  generalize decide (a = b) = r2 at *
  generalize escB a = p at *
  generalize escB b = q at *
  generalize escV a = xa at *
  generalize escV b = xb at *
  rcases r1 with _ | _ <;> rcases r2 with _ | _ <;> rcases p with _ | _ <;> rcases q with _ | _
  all_goals first
    | (exfalso; revert RI; decide)
    | (clear RI
       go_enter Try.func8, Try.ntmps8
       go_wp2_with fail
       refine (EA.out _ (Chg.refl _ _)).mono ?_
       rintro e w1 ⟨u, rfl, O, C⟩
       have C1 : Hid (Chg [] w w1) := C
       have U1 : Hid (Sl w1 u (ints xa)) := Sl.owned (n := 128) O.out
       clear C O EA
       go_wp2_with fail
       refine (EB.out _ C1.out).mono ?_
       rintro e w2 ⟨v, rfl, O, C⟩
       have C2 := Lib.hid (C1.out.trans C.out)
       have U2 := Lib.hid (U1.out.chg C.out (by simp))
       have V2 : Hid (Sl w2 v (ints xb)) := Sl.owned (n := 128) O.out
       clear C O EB C1 U1
       go_wp2_with fail
       refine (KN.out _).mono ?_
       rintro e w3 ⟨rfl, C⟩
       have C3 := Lib.hid (C2.out.trans C.out)
       have SS := Lib.hid (S1.out w3 u v (U2.out.chg C.out (by simp)) (V2.out.chg C.out (by simp)))
       clear C C2 U2 V2 KN S1
       go_wp2_with fail
       refine SS.out.mono ?_
       rintro e w4 ⟨rfl, C⟩
       have C4 := Lib.hid (C3.out.trans C.out)
       clear C
       have ST := Lib.hid (S2.out _ C4.out)
       clear SS S2 C3
       go_wp2_with fail
       refine ST.out.mono ?_
       rintro e w5 ⟨rfl, C⟩
       have C5 := Lib.hid (C4.out.trans C.out)
       clear C
       clear ST C4
       go_wp2_with fail
       go_ret
       exact ⟨by first | rfl | simp, C5⟩)

theorem recordLogged_walk (va vb : Value) (xs ys : List Int) (w : World) (ha : Sl w va xs) (hb : Sl w vb ys) (hca : ∀ ao n c, va = .slice ao n c → n ≤ c) (hcb : ∀ ao n c, vb = .slice ao n c → n ≤ c) (hxa : By xs) (hyb : By ys) :
    Calls Try.prog 8 #[va, vb] w fun e w' => e = .returned (.bool true) ∧ Chg [] w w' :=
  (recordLogged_core va vb (nats xs) (nats ys) w (by rw [ints_nats hxa]; exact ha) (by rw [ints_nats hyb]; exact hb) (nats_bs hxa) (nats_bs hyb) hca hcb).mono fun _ _ h => ⟨h.1, h.2.out⟩

end Go.Proofs.Ytnjemjkjbeingaa
