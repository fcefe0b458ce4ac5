/-
  LePrefix: the walk. By an AI agent.
-/
import Derived.Test.YtbinoailpceonaaRun
import Derived.Test.YtbinoailpceonaaKnown
import Derived.StillTailTactics
namespace Go.Proofs.Ytbinoailpceonaa
open Go.RowKit

set_option maxHeartbeats 2000000 in
set_option maxRecDepth 100000 in
theorem prefix_walk (size first : Int) (sv : Value) (ds : List OpD) (w : World) (ho : Ops w sv ds) :
    Calls Try.prog 7 #[.int .i64 size, sv, .int .i64 first] w fun e w' => e = .returned (.bool true) ∧ Chg [] w w' := by
  have hmuch := much_any sv ds w ho
  obtain ⟨ao, c, rfl⟩ := ho.slice
  have hl := ho.len
  have HO := Lib.hid ho
  clear ho
  by_cases hsz : 0 ≤ size ∧ size ≤ 4096
  · obtain ⟨n, rfl⟩ := Int.eq_ofNat_of_zero_le hsz.1
    have hn : n ≤ 4096 := by omega
    clear hsz
    go_enter Try.func7, Try.ntmps7
    go_wp2_with fail
    refine hmuch.mono ?_
    rintro e w' ⟨m, rfl, rfl, hm⟩
    clear hmuch
    cases m
    · clear hm
      go_wp2_with fail
      refine (new_ok n w hn).mono ?_
      rintro e w1 ⟨b1, g1, rfl, hp1, hc1, hb1, hg1, ub1, ug1⟩
      have P1 := Lib.hid hp1
      have C := Lib.hid hc1
      have z1 := hc1.size
      clear hp1 hc1
      go_wp2_with fail
      refine (new_ok n w1 hn).mono ?_
      rintro e w2 ⟨b2, g2, rfl, hp2, hc2, hb2, hg2, ub2, ug2⟩
      replace P1 := Lib.hid (P1.out.chg hc2 (by simp) (by simp))
      have P2 := Lib.hid hp2
      replace C := Lib.hid (C.out.trans hc2)
      have z2 := hc2.size
      clear hp2 hc2
      go_wp2_with fail
      refine (known_any w2).mono ?_
      rintro e w3 ⟨rfl, hc5⟩
      replace P1 := Lib.hid (P1.out.chg hc5 (by simp) (by simp))
      replace P2 := Lib.hid (P2.out.chg hc5 (by simp) (by simp))
      replace C := Lib.hid (C.out.trans hc5)
      have z3 := hc5.size
      clear hc5
      obtain ⟨fn, hfn⟩ : ∃ fn : Nat, max 0 (min first (ds.length : Int)) = fn := ⟨(max 0 (min first (ds.length : Int))).toNat, by omega⟩
      have hfl : fn ≤ ds.length := by omega
      go_wp2_with fail
      have HFN := Lib.hid hfn
      clear hfn
      go_loopw [12] (fun i wr => ∃ k : Nat, k ≤ ds.length ∧ i = .int .i64 k ∧ Hid (Pk wr b1 g1 ((PS.mk (List.replicate n 0) 0 0).run (ds.take (min k fn)))) ∧ Hid (Pk wr b2 g2 ((PS.mk (List.replicate n 0) 0 0).run (ds.take k))) ∧ Hid (Chg [] w wr)) (fun i _ => ds.length - (intOf i).toNat)
      case atStart => exact ⟨0, Nat.zero_le _, rfl, by rw [Nat.zero_min, List.take_zero]; exact P1, P2, C⟩
      case round =>
        obtain ⟨k, hk, rfl, Q1, Q2, D⟩ := hrel
        clear P1 P2 C
        by_cases hlt : k < ds.length
        · obtain ⟨d, hd⟩ : ∃ d, ds[k]? = some d := ⟨_, List.getElem?_eq_getElem hlt⟩
          obtain ⟨bb, oo, rfl, hbb, hin⟩ := HO.out.at hd
          have HIN := Lib.hid hin
          have HDD := Lib.hid hd
          clear hin hd
          have i1 := (HIN.out.chg hbb D.out).c0
          have i2 := (HIN.out.chg hbb D.out).c1
          have i3 := (HIN.out.chg hbb D.out).c2
          have i4 := (HIN.out.chg hbb D.out).c3
          have hk0 : (0 : Int) ≤ k := Int.natCast_nonneg _
          have hk1 : (k : Int) < ds.length := by omega
          by_cases hkf : k < fn
          · go_wp2_with fail
            go_still_tail 10, (by kernel_rfl)
            change wpList _ _ _ _ _ wr.drew
            go_wp2_with fail
            refine (puts_in b1 g1 _ d w wr Q1.out HIN.out D.out hb1).mono ?_
            rintro e wa ⟨rfl, hp, hc⟩
            rw [Nat.min_eq_left (by omega), ← PS.run_snoc, ← take_snoc HDD.out] at hp
            replace Q1 := Lib.hid hp
            replace Q2 := Lib.hid (Q2.out.chg hc (by simp; omega) (by simp; omega))
            replace D := Lib.hid (D.out.fresh hc (by simp; omega))
            clear hp hc i1 i2 i3 i4
            have i1 := (HIN.out.chg hbb D.out).c0
            have i2 := (HIN.out.chg hbb D.out).c1
            have i3 := (HIN.out.chg hbb D.out).c2
            have i4 := (HIN.out.chg hbb D.out).c3
            go_wp2_with fail
            go_still_tail 10, (by kernel_rfl)
            change wpList _ _ _ _ _ wa.drew
            go_wp2_with fail
            refine (puts_in b2 g2 _ d w wa Q2.out HIN.out D.out (by omega)).mono ?_
            rintro e wb ⟨rfl, hp, hc⟩
            rw [← PS.run_snoc, ← take_snoc HDD.out] at hp
            replace Q2 := Lib.hid hp
            replace Q1 := Lib.hid (Q1.out.chg hc (by simp; omega) (by simp; omega))
            replace D := Lib.hid (D.out.fresh hc (by simp; omega))
            clear hp hc i1 i2 i3 i4
            go_wp2_with fail
            refine ⟨⟨k + 1, by omega, by go_num, ?_, Q2.out, D.out⟩, by simp [intOf]; omega⟩
            rw [Nat.min_eq_left (by omega)]
            exact Q1
          · go_wp2_with fail
            go_still_tail 10, (by kernel_rfl)
            change wpList _ _ _ _ _ wr.drew
            go_wp2_with fail
            refine (puts_in b2 g2 _ d w wr Q2.out HIN.out D.out (by omega)).mono ?_
            rintro e wb ⟨rfl, hp, hc⟩
            rw [← PS.run_snoc, ← take_snoc HDD.out] at hp
            replace Q2 := Lib.hid hp
            replace Q1 := Lib.hid (Q1.out.chg hc (by simp; omega) (by simp; omega))
            replace D := Lib.hid (D.out.fresh hc (by simp; omega))
            clear hp hc i1 i2 i3 i4
            go_wp2_with fail
            refine ⟨⟨k + 1, by omega, by go_num, ?_, Q2.out, D.out⟩, by simp [intOf]; omega⟩
            rw [Nat.min_eq_right (by omega)]
            rw [Nat.min_eq_right (by omega)] at Q1
            exact Q1
        · obtain rfl : k = ds.length := by omega
          rw [Nat.min_eq_right hfl] at Q1
          rw [List.take_length] at Q2
          have F1 : Hid (((PS.mk (List.replicate n 0) 0 0).run (ds.take fn)).bad ≠ 0 → (PS.mk (List.replicate n 0) 0 0).run ds = (PS.mk (List.replicate n 0) 0 0).run (ds.take fn)) := fun hb => by
            have := PS.run_bad (ds.drop fn) hb
            rw [← PS.run_append, List.take_append_drop] at this
            exact this
          have F2 : Hid (((PS.mk (List.replicate n 0) 0 0).run (ds.take fn)).on ((PS.mk (List.replicate n 0) 0 0).run ds)) := by
            have := PS.on_run (ds.drop fn) Q1.out.le
            rw [← PS.run_append, List.take_append_drop] at this
            exact this
          have F3 : Hid (((PS.mk (List.replicate n 0) 0 0).run (ds.take fn)).bs.length = n) := by
            have := (PS.on_run (ds.take fn) (s := PS.mk (List.replicate n 0) 0 0) (Nat.zero_le _)).len
            rw [List.length_replicate] at this
            exact this
          generalize (PS.mk (List.replicate n 0) 0 0).run (ds.take fn) = s1 at *
          generalize (PS.mk (List.replicate n 0) 0 0).run ds = s2 at *
          clear hk hlt
          go_wp2_with fail
          refine (err_any b1 g1 _ wr Q1.out).mono ?_
          rintro e w' ⟨rfl, rfl⟩
          by_cases hb : s1.bad = 0
          · have hbb : (s1.bad != 0) = false := by simpa using hb
            have HB := Lib.hid hb
            clear hb F1
            go_wp2_with fail
            refine (bytes_any b1 g1 _ wr Q1.out).mono ?_
            rintro e wa (⟨h, _⟩ | ⟨-, va, rfl, hv, hc⟩)
            · exact absurd HB.out h
            have VA := Lib.hid (Sl.owned hv)
            replace Q1 := Lib.hid (Q1.out.chg hc (by simp) (by simp))
            replace Q2 := Lib.hid (Q2.out.chg hc (by simp) (by simp))
            replace D := Lib.hid (D.out.trans hc)
            have hsl := VA.out.slice
            rw [F3.out] at hsl
            obtain ⟨aa, ac, rfl⟩ := hsl
            have oa := owned_cap hv
            clear hv hc
            have o1 : s1.pos ≤ n := by have := Q1.out.le; rw [F3.out] at this; exact this
            have o2 := F2.out.pos
            go_wp2_with (go_at_call 33; first | (refine (at_any b2 g2 _ _ Q2.out).mono ?_; rintro e w' ⟨rfl, rfl⟩) | (refine (at_any b1 g1 _ _ Q1.out).mono ?_; rintro e w' ⟨rfl, rfl⟩))
            refine (err_any b2 g2 _ _ Q2.out).mono ?_
            rintro e w' ⟨rfl, rfl⟩
            by_cases hb2 : s2.bad = 0
            · have hbb2 : (s2.bad != 0) = false := by simpa using hb2
              have HB2 := Lib.hid hb2
              clear hb2
              go_wp2_with fail
              refine (bytes_any b2 g2 _ wa Q2.out).mono ?_
              rintro e wb (⟨h, _⟩ | ⟨-, vb, rfl, hv, hc⟩)
              · exact absurd HB2.out h
              have VB := Lib.hid (Sl.owned hv)
              replace Q1 := Lib.hid (Q1.out.chg hc (by simp) (by simp))
              replace VA := Lib.hid (VA.out.chg hc (by simp))
              replace D := Lib.hid (D.out.trans hc)
              have hsl := VB.out.slice
              rw [F2.out.len, F3.out] at hsl
              obtain ⟨ba, bc, rfl⟩ := hsl
              have ob := owned_cap hv
              clear hv hc Q2
              have p0 : (0 : Int) ≤ s1.pos := Int.natCast_nonneg _
              have p1 : (s1.pos : Int) ≤ ac := by omega
              have p2 : (s1.pos : Int) ≤ bc := by omega
              go_wp2_with fail
              have SA := Lib.hid (VA.out.pre s1.pos o1)
              have SB := Lib.hid (VB.out.pre s1.pos o1)
              rw [F2.out.pre] at SB
              have SN : (s1.bs.take s1.pos).length ≤ 140737488355328 := by simp; omega
              go_quiet (first | (go_at_call 33; refine Calls.quiet_of_same ((at_any b1 g1 _ _ (Q1.out.drewN _)).mono fun _ _ h => ⟨h.1, h.2.symm⟩)) | (go_at_call 28; refine Calls.quiet_of (same_true _ _ _ _ (SA.out.chg (s := []) ((Chg.refl _ _).drewN _) (by simp)) (SB.out.chg (s := []) ((Chg.refl _ _).drewN _) (by simp)) SN)))
              go_wp2_with fail
              go_ret
              exact ⟨rfl, D.out.drewN _⟩
            · have hbb2 : (s2.bad != 0) = true := by simpa using hb2
              clear hb2
              go_wp2_with fail
              go_ret
              exact ⟨rfl, D.out⟩
          · have hbb : (s1.bad != 0) = true := by simpa using hb
            obtain rfl := F1.out hb
            clear hb F1 F2
            go_wp2_with (first
              | (go_at_call 43; first | (refine (err_any b2 g2 _ _ Q2.out).mono ?_; rintro e w' ⟨rfl, rfl⟩) | (refine (err_any b1 g1 _ _ Q1.out).mono ?_; rintro e w' ⟨rfl, rfl⟩))
              | (go_at_call 33; first | (refine (at_any b2 g2 _ _ Q2.out).mono ?_; rintro e w' ⟨rfl, rfl⟩) | (refine (at_any b1 g1 _ _ Q1.out).mono ?_; rintro e w' ⟨rfl, rfl⟩)))
            go_ret
            exact ⟨rfl, D.out⟩
    · go_wp2_with fail
      go_ret
      exact ⟨rfl, Chg.refl _ _⟩
  · have hbad : size < 0 ∨ 4096 < size := by omega
    clear hsz
    have hnew := fun w => new_bad size w hbad
    clear hbad
    go_enter Try.func7, Try.ntmps7
    go_wp2_with fail
    refine hmuch.mono ?_
    rintro e w' ⟨m, rfl, rfl, hm⟩
    clear hmuch hm
    cases m
    · go_wp2_with (first
        | (go_at_call 12; refine (hnew _).mono ?_; rintro e w' ⟨rfl, rfl⟩)
        | (go_at_call 11; refine (known_any _).mono ?_; rintro e w1 ⟨rfl, hc⟩; have C := Lib.hid hc; clear hc))
      go_ret
      exact ⟨rfl, C.out⟩
    · go_wp2_with fail
      go_ret
      exact ⟨rfl, Chg.refl _ _⟩
end Go.Proofs.Ytbinoailpceonaa
