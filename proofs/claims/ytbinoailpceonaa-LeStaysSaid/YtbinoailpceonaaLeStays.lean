/-
  LeStays: the walk. By an AI agent.
-/
import Derived.Test.YtbinoailpceonaaRun
import Derived.Test.YtbinoailpceonaaKnown
import Derived.StillTailTactics
namespace Go.Proofs.Ytbinoailpceonaa
open Go.RowKit

set_option maxHeartbeats 2000000 in
set_option maxRecDepth 100000 in
theorem stays_bad (size : Int) (hsz : size < 0 ∨ 4096 < size) (sv bv mv : Value) (ds es : List OpD) (xs : List Int) (w : World) (ho : Ops w sv ds) (hb : Sl w bv xs) (hm : Ops w mv es) (hy : By xs) (hbx : xs.length ≤ 140737488355328) :
    Calls Try.prog 8 #[.int .i64 size, sv, bv, mv] w fun e w' => e = .returned (.bool true) ∧ Chg [] w w' := by
  have hmuch := much_any sv ds w ho
  have hmuch2 := much_any mv es w hm
  obtain ⟨ao, c, rfl⟩ := ho.slice
  obtain ⟨bo, bc, rfl⟩ := hb.slice
  obtain ⟨mo, mc, rfl⟩ := hm.slice
  have hl := ho.len
  have hl2 := hm.len
  have HO := Lib.hid ho
  have HM := Lib.hid hm
  have HB := Lib.hid hb
  have HY := Lib.hid hy
  clear ho hm hb hy
  by_cases hlx : xs.length ≤ 100000
  · have d1 : decide ((100000 : Int) < (xs.length : Int)) = false := decide_eq_false (by omega)
    go_enter Try.func8, Try.ntmps8
    go_wp2_with fail
    refine hmuch.mono ?_
    rintro e w' ⟨m, rfl, rfl, hm⟩
    clear hmuch
    cases m
    · go_wp2_with fail
      refine hmuch2.mono ?_
      rintro e w' ⟨m, rfl, rfl, hm2⟩
      clear hmuch2 hm
      cases m
      · clear hm2
        go_wp2_with fail
        refine (new_bad size w hsz).mono ?_
        rintro e w' ⟨rfl, rfl⟩
        go_wp2_with fail
        refine (read_any _ _ w HB.out hbx HY.out).mono ?_
        rintro e w2 ⟨br, vr, rfl, hr, hc, l1, l2⟩
        have R := Lib.hid hr
        have u1 := hr.pb.lt
        have LR := Lib.hid l2
        have z2 := hc.size
        have C := Lib.hid hc
        clear hr l2 hc HB HY hsz
        go_wp2_with fail
        refine (known_any w2).mono ?_
        rintro e w3 ⟨rfl, hc⟩
        have z3 := hc.size
        replace C := Lib.hid (C.out.trans hc)
        replace R := Lib.hid (R.out.chg hc (by simp) (by simp))
        clear hc d1
        go_wp2_with fail
        go_loopw [12] (fun i wr => ∃ k : Nat, k ≤ ds.length ∧ i = .int .i64 k ∧ Hid (Rd wr br vr ((RS.mk xs 0 0 0).run (ds.take k))) ∧ Hid (Chg [] w wr)) (fun i _ => ds.length - (intOf i).toNat)
        case atStart => exact ⟨0, Nat.zero_le _, rfl, R, C⟩
        case round =>
          obtain ⟨k, hk, rfl, S, D⟩ := hrel
          clear R C
          by_cases hlt : k < ds.length
          · obtain ⟨d, hd⟩ : ∃ d, ds[k]? = some d := ⟨_, List.getElem?_eq_getElem hlt⟩
            obtain ⟨bb, oo, rfl, hbb1, hin⟩ := HO.out.at hd
            have HIN := Lib.hid hin
            have HDD := Lib.hid hd
            clear hin hd
            have hk0 : (0 : Int) ≤ k := Int.natCast_nonneg _
            have hk1 : (k : Int) < ds.length := by omega
            have i1 := (HIN.out.chg hbb1 D.out).c0
            have i2 := (HIN.out.chg hbb1 D.out).c1
            have i3 := (HIN.out.chg hbb1 D.out).c2
            have i4 := (HIN.out.chg hbb1 D.out).c3
            go_wp2_with fail
            refine (reads_any br vr _ d wr S.out HIN.out.ok).mono ?_
            rintro e wb ⟨lx, rfl, ho, hr, hc⟩
            rw [← RS.run_snoc, ← take_snoc HDD.out] at hr
            replace S := Lib.hid hr
            replace D := Lib.hid (D.out.fresh hc (by simp; omega))
            clear ho hr hc i1 i2 i3 i4
            go_wp2_with fail
            exact ⟨⟨k + 1, by omega, by go_num, S, D⟩, by simp [intOf]; omega⟩
          · obtain rfl : k = ds.length := by omega
            rw [List.take_length] at S
            clear hk hlt
            generalize (RS.mk xs 0 0 0).run ds = sr at *
            go_wp2_with fail
            refine (errR_any br vr _ wr S.out).mono ?_
            rintro e wc ⟨rfl, q, rfl⟩
            replace S := Lib.hid (S.out.chg (t := []) ((Chg.refl _ _).drewN q) (by simp) (by simp))
            replace D := Lib.hid (D.out.drewN q)
            generalize wr.drewN q = wd at *
            by_cases hrb : sr.bad = 0
            · have hrb2 : (sr.bad != 0) = false := by simpa using hrb
              clear hrb
              go_wp2_with fail
              go_ret
              exact ⟨rfl, D.out⟩
            · have hrb2 : (sr.bad != 0) = true := by simpa using hrb
              have HRB := Lib.hid hrb
              clear hrb
              go_wp2_with fail
              refine (atR_any br vr _ _ S.out).mono ?_
              rintro e w' ⟨rfl, rfl⟩
              go_wp2_with fail
              go_loopw [20] (fun i wr => ∃ k : Nat, k ≤ es.length ∧ i = .int .i64 k ∧ Hid (Rd wr br vr sr) ∧ Hid (Chg [] w wr)) (fun i _ => es.length - (intOf i).toNat)
              case atStart => exact ⟨0, Nat.zero_le _, rfl, S, D⟩
              case round =>
                obtain ⟨k, hk, rfl, T, E⟩ := hrel
                clear S D
                by_cases hlt : k < es.length
                · obtain ⟨d, hd⟩ : ∃ d, es[k]? = some d := ⟨_, List.getElem?_eq_getElem hlt⟩
                  obtain ⟨bb, oo, rfl, hbb3, hin⟩ := HM.out.at hd
                  have HIN := Lib.hid hin
                  have HDD := Lib.hid hd
                  clear hin hd
                  have hk0 : (0 : Int) ≤ k := Int.natCast_nonneg _
                  have hk1 : (k : Int) < es.length := by omega
                  have i1 := (HIN.out.chg hbb3 E.out).c0
                  have i2 := (HIN.out.chg hbb3 E.out).c1
                  have i3 := (HIN.out.chg hbb3 E.out).c2
                  have i4 := (HIN.out.chg hbb3 E.out).c3
                  go_wp2_with fail
                  have hst := OpD.stuck HRB.out d
                  have hre := reads_any br vr _ d wr T.out HIN.out.ok
                  rw [hst.1, hst.2.1, hst.2.2] at hre
                  clear hst
                  refine hre.mono ?_
                  clear hre
                  rintro e wb ⟨lx, rfl, ho, hr, hc⟩
                  obtain ⟨lo, lc, rfl⟩ := owns_slice ho
                  rw [List.length_nil]
                  replace T := Lib.hid hr
                  replace E := Lib.hid (E.out.fresh hc (by simp; omega))
                  clear ho hr hc i1 i2 i3 i4
                  go_wp2_with fail
                  refine (errR_any br vr _ wb T.out).mono ?_
                  rintro e wc ⟨rfl, q, rfl⟩
                  replace T := Lib.hid (T.out.chg (t := []) ((Chg.refl _ _).drewN q) (by simp) (by simp))
                  replace E := Lib.hid (E.out.drewN q)
                  generalize wb.drewN q = wd at *
                  go_wp2_with fail
                  have hen := endR_any br vr _ wd T.out
                  rw [show sr.end_ = (sr.bad, sr.wh) from by unfold RS.end_; rw [if_neg HRB.out]] at hen
                  refine hen.mono ?_
                  clear hen
                  rintro e we ⟨rfl, q2, rfl⟩
                  replace T := Lib.hid (T.out.chg (t := []) ((Chg.refl _ _).drewN q2) (by simp) (by simp))
                  replace E := Lib.hid (E.out.drewN q2)
                  generalize wd.drewN q2 = wf at *
                  go_wp2_with fail
                  refine (atR_any br vr _ wf T.out).mono ?_
                  rintro e w' ⟨rfl, rfl⟩
                  go_wp2_with fail
                  exact ⟨⟨k + 1, by omega, by go_num, T, E⟩, by simp [intOf]; omega⟩
                · go_wp2_with fail
                  go_ret
                  exact ⟨rfl, E.out⟩
      · go_wp2_with fail
        go_ret
        exact ⟨rfl, Chg.refl _ _⟩
    · clear hm
      go_wp2_with fail
      go_ret
      exact ⟨rfl, Chg.refl _ _⟩
  · have d1 : decide ((100000 : Int) < (xs.length : Int)) = true := decide_eq_true (by omega)
    go_enter Try.func8, Try.ntmps8
    go_wp2_with fail
    refine hmuch.mono ?_
    rintro e w' ⟨m, rfl, rfl, hm⟩
    clear hmuch hm
    cases m
    · go_wp2_with fail
      refine hmuch2.mono ?_
      rintro e w' ⟨m, rfl, rfl, hm2⟩
      clear hmuch2 hm2
      cases m
      all_goals go_wp2_with fail
      all_goals go_ret
      all_goals exact ⟨rfl, Chg.refl _ _⟩
    · go_wp2_with fail
      go_ret
      exact ⟨rfl, Chg.refl _ _⟩

set_option maxHeartbeats 2000000 in
set_option maxRecDepth 100000 in
theorem stays_ok (n : Nat) (hn : n ≤ 4096) (sv bv mv : Value) (ds es : List OpD) (xs : List Int) (w : World) (ho : Ops w sv ds) (hb : Sl w bv xs) (hm : Ops w mv es) (hy : By xs) (hbx : xs.length ≤ 140737488355328) :
    Calls Try.prog 8 #[.int .i64 (n : Int), sv, bv, mv] w fun e w' => e = .returned (.bool true) ∧ Chg [] w w' := by
  have hmuch := much_any sv ds w ho
  have hmuch2 := much_any mv es w hm
  obtain ⟨ao, c, rfl⟩ := ho.slice
  obtain ⟨bo, bc, rfl⟩ := hb.slice
  obtain ⟨mo, mc, rfl⟩ := hm.slice
  have hl := ho.len
  have hl2 := hm.len
  have HO := Lib.hid ho
  have HM := Lib.hid hm
  have HB := Lib.hid hb
  have HY := Lib.hid hy
  clear ho hm hb hy
  by_cases hlx : xs.length ≤ 100000
  · have d1 : decide ((100000 : Int) < (xs.length : Int)) = false := decide_eq_false (by omega)
    go_enter Try.func8, Try.ntmps8
    go_wp2_with fail
    refine hmuch.mono ?_
    rintro e w' ⟨m, rfl, rfl, hm⟩
    clear hmuch
    cases m
    · go_wp2_with fail
      refine hmuch2.mono ?_
      rintro e w' ⟨m, rfl, rfl, hm2⟩
      clear hmuch2 hm
      cases m
      · clear hm2
        go_wp2_with fail
        refine (new_ok n w hn).mono ?_
        rintro e w1 ⟨b1, g1, rfl, hp1, hc1, hb1, hg1, ub1, ug1⟩
        have P := Lib.hid hp1
        have C := Lib.hid hc1
        have z1 := hc1.size
        replace HB := Lib.hid (HB.out.chg hc1 (by simp))
        clear hp1 hc1
        go_wp2_with fail
        refine (read_any _ _ w1 HB.out hbx HY.out).mono ?_
        rintro e w2 ⟨br, vr, rfl, hr, hc, l1, l2⟩
        have R := Lib.hid hr
        have u1 := hr.pb.lt
        have LR := Lib.hid l2
        have z2 := hc.size
        replace C := Lib.hid (C.out.trans hc)
        replace P := Lib.hid (P.out.chg hc (by simp) (by simp))
        clear hr l2 hc HB HY
        go_wp2_with fail
        refine (known_any w2).mono ?_
        rintro e w3 ⟨rfl, hc⟩
        have z3 := hc.size
        replace C := Lib.hid (C.out.trans hc)
        replace P := Lib.hid (P.out.chg hc (by simp) (by simp))
        replace R := Lib.hid (R.out.chg hc (by simp) (by simp))
        clear hc d1
        go_wp2_with fail
        go_loopw [12] (fun i wr => ∃ k : Nat, k ≤ ds.length ∧ i = .int .i64 k ∧ Hid (Pk wr b1 g1 ((PS.mk (List.replicate n 0) 0 0).run (ds.take k))) ∧ Hid (Rd wr br vr ((RS.mk xs 0 0 0).run (ds.take k))) ∧ Hid (Chg [] w wr)) (fun i _ => ds.length - (intOf i).toNat)
        case atStart => exact ⟨0, Nat.zero_le _, rfl, P, R, C⟩
        case round =>
          obtain ⟨k, hk, rfl, Q, S, D⟩ := hrel
          clear P R C
          by_cases hlt : k < ds.length
          · obtain ⟨d, hd⟩ : ∃ d, ds[k]? = some d := ⟨_, List.getElem?_eq_getElem hlt⟩
            obtain ⟨bb, oo, rfl, hbb1, hin⟩ := HO.out.at hd
            have HIN := Lib.hid hin
            have HDD := Lib.hid hd
            clear hin hd
            have hk0 : (0 : Int) ≤ k := Int.natCast_nonneg _
            have hk1 : (k : Int) < ds.length := by omega
            have i1 := (HIN.out.chg hbb1 D.out).c0
            have i2 := (HIN.out.chg hbb1 D.out).c1
            have i3 := (HIN.out.chg hbb1 D.out).c2
            have i4 := (HIN.out.chg hbb1 D.out).c3
            go_wp2_with fail
            go_still_tail 10, (by kernel_rfl)
            change wpList _ _ _ _ _ wr.drew
            go_wp2_with fail
            refine (puts_in b1 g1 _ d w wr Q.out HIN.out D.out hb1).mono ?_
            rintro e wa ⟨rfl, hp, hc⟩
            rw [← PS.run_snoc, ← take_snoc HDD.out] at hp
            replace Q := Lib.hid hp
            replace S := Lib.hid (S.out.chg hc (by simp; omega) (fun k hk => by have := LR.out k hk; simp; omega))
            replace D := Lib.hid (D.out.fresh hc (by simp; omega))
            clear hp hc i1 i2 i3 i4
            have i1 := (HIN.out.chg hbb1 D.out).c0
            have i2 := (HIN.out.chg hbb1 D.out).c1
            have i3 := (HIN.out.chg hbb1 D.out).c2
            have i4 := (HIN.out.chg hbb1 D.out).c3
            go_wp2_with fail
            refine (reads_any br vr _ d wa S.out HIN.out.ok).mono ?_
            rintro e wb ⟨lx, rfl, ho, hr, hc⟩
            rw [← RS.run_snoc, ← take_snoc HDD.out] at hr
            replace S := Lib.hid hr
            replace Q := Lib.hid (Q.out.chg hc (by simp; omega) (by simp; omega))
            replace D := Lib.hid (D.out.fresh hc (by simp; omega))
            clear ho hr hc i1 i2 i3 i4
            go_wp2_with fail
            exact ⟨⟨k + 1, by omega, by go_num, Q, S, D⟩, by simp [intOf]; omega⟩
          · obtain rfl : k = ds.length := by omega
            rw [List.take_length] at Q S
            clear hk hlt
            generalize (RS.mk xs 0 0 0).run ds = sr at *
            have hpn : ((PS.mk (List.replicate n 0) 0 0).run ds).bs.length = n := by
              have := (PS.on_run ds (s := PS.mk (List.replicate n 0) 0 0) (Nat.zero_le _)).len
              rw [List.length_replicate] at this
              exact this
            generalize (PS.mk (List.replicate n 0) 0 0).run ds = sp at *
            go_wp2_with fail
            refine (err_any b1 g1 _ _ Q.out).mono ?_
            rintro e w' ⟨rfl, rfl⟩
            by_cases hpb : sp.bad = 0
            · have hpb2 : (sp.bad != 0) = false := by simpa using hpb
              clear hpb
              go_wp2_with fail
              refine (errR_any br vr _ wr S.out).mono ?_
              rintro e wc ⟨rfl, q, rfl⟩
              replace S := Lib.hid (S.out.chg (t := []) ((Chg.refl _ _).drewN q) (by simp) (by simp))
              replace D := Lib.hid (D.out.drewN q)
              generalize wr.drewN q = wd at *
              by_cases hrb : sr.bad = 0
              · have hrb2 : (sr.bad != 0) = false := by simpa using hrb
                clear hrb
                go_wp2_with fail
                go_ret
                exact ⟨rfl, D.out⟩
              · have hrb2 : (sr.bad != 0) = true := by simpa using hrb
                have HRB := Lib.hid hrb
                clear hrb
                go_wp2_with fail
                refine (atR_any br vr _ _ S.out).mono ?_
                rintro e w' ⟨rfl, rfl⟩
                go_wp2_with fail
                go_loopw [20] (fun i wr => ∃ k : Nat, k ≤ es.length ∧ i = .int .i64 k ∧ Hid (Rd wr br vr sr) ∧ Hid (Chg [] w wr)) (fun i _ => es.length - (intOf i).toNat)
                case atStart => exact ⟨0, Nat.zero_le _, rfl, S, D⟩
                case round =>
                  obtain ⟨k, hk, rfl, T, E⟩ := hrel
                  clear S D
                  by_cases hlt : k < es.length
                  · obtain ⟨d, hd⟩ : ∃ d, es[k]? = some d := ⟨_, List.getElem?_eq_getElem hlt⟩
                    obtain ⟨bb, oo, rfl, hbb3, hin⟩ := HM.out.at hd
                    have HIN := Lib.hid hin
                    have HDD := Lib.hid hd
                    clear hin hd
                    have hk0 : (0 : Int) ≤ k := Int.natCast_nonneg _
                    have hk1 : (k : Int) < es.length := by omega
                    have i1 := (HIN.out.chg hbb3 E.out).c0
                    have i2 := (HIN.out.chg hbb3 E.out).c1
                    have i3 := (HIN.out.chg hbb3 E.out).c2
                    have i4 := (HIN.out.chg hbb3 E.out).c3
                    go_wp2_with fail
                    have hst := OpD.stuck HRB.out d
                    have hre := reads_any br vr _ d wr T.out HIN.out.ok
                    rw [hst.1, hst.2.1, hst.2.2] at hre
                    clear hst
                    refine hre.mono ?_
                    clear hre
                    rintro e wb ⟨lx, rfl, ho, hr, hc⟩
                    obtain ⟨lo, lc, rfl⟩ := owns_slice ho
                    rw [List.length_nil]
                    replace T := Lib.hid hr
                    replace E := Lib.hid (E.out.fresh hc (by simp; omega))
                    clear ho hr hc i1 i2 i3 i4
                    go_wp2_with fail
                    refine (errR_any br vr _ wb T.out).mono ?_
                    rintro e wc ⟨rfl, q, rfl⟩
                    replace T := Lib.hid (T.out.chg (t := []) ((Chg.refl _ _).drewN q) (by simp) (by simp))
                    replace E := Lib.hid (E.out.drewN q)
                    generalize wb.drewN q = wd at *
                    go_wp2_with fail
                    have hen := endR_any br vr _ wd T.out
                    rw [show sr.end_ = (sr.bad, sr.wh) from by unfold RS.end_; rw [if_neg HRB.out]] at hen
                    refine hen.mono ?_
                    clear hen
                    rintro e we ⟨rfl, q2, rfl⟩
                    replace T := Lib.hid (T.out.chg (t := []) ((Chg.refl _ _).drewN q2) (by simp) (by simp))
                    replace E := Lib.hid (E.out.drewN q2)
                    generalize wd.drewN q2 = wf at *
                    go_wp2_with fail
                    refine (atR_any br vr _ wf T.out).mono ?_
                    rintro e w' ⟨rfl, rfl⟩
                    go_wp2_with fail
                    exact ⟨⟨k + 1, by omega, by go_num, T, E⟩, by simp [intOf]; omega⟩
                  · go_wp2_with fail
                    go_ret
                    exact ⟨rfl, E.out⟩
            · have hp10 : sp.bad = 10 := by rcases Q.out.bad with h | h; exact absurd h hpb; exact h
              have HPB := Lib.hid hpb
              have HPN := Lib.hid hpn
              rw [hp10]
              have HP10 := Lib.hid hp10
              have hpos := Q.out.le
              rw [hpn] at hpos
              clear hpb hp10 hpn
              go_wp2_with fail
              refine (at_any b1 g1 _ _ Q.out).mono ?_
              rintro e w' ⟨rfl, rfl⟩
              go_wp2_with fail
              go_loopw [14] (fun i wr => ∃ k : Nat, k ≤ es.length ∧ i = .int .i64 k ∧ Hid (Pk wr b1 g1 sp) ∧ Hid (Rd wr br vr sr) ∧ Hid (Chg [] w wr)) (fun i _ => es.length - (intOf i).toNat)
              case atStart => exact ⟨0, Nat.zero_le _, rfl, Q, S, D⟩
              case round =>
                obtain ⟨k, hk, rfl, QQ, SS, DD⟩ := hrel
                clear Q S D
                by_cases hlt : k < es.length
                · obtain ⟨d, hd⟩ : ∃ d, es[k]? = some d := ⟨_, List.getElem?_eq_getElem hlt⟩
                  obtain ⟨bb, oo, rfl, hbb2, hin⟩ := HM.out.at hd
                  have HIN := Lib.hid hin
                  have HDD := Lib.hid hd
                  clear hin hd
                  have hk0 : (0 : Int) ≤ k := Int.natCast_nonneg _
                  have hk1 : (k : Int) < es.length := by omega
                  have i1 := (HIN.out.chg hbb2 DD.out).c0
                  have i2 := (HIN.out.chg hbb2 DD.out).c1
                  have i3 := (HIN.out.chg hbb2 DD.out).c2
                  have i4 := (HIN.out.chg hbb2 DD.out).c3
                  go_wp2_with fail
                  go_still_tail 10, (by kernel_rfl)
                  change wpList _ _ _ _ _ wr.drew
                  go_wp2_with fail
                  refine (puts_in b1 g1 _ d w wr QQ.out HIN.out DD.out hb1).mono ?_
                  rintro e wa ⟨rfl, hp, hc⟩
                  rw [PS.put_bad HPB.out] at hp
                  replace QQ := Lib.hid hp
                  replace SS := Lib.hid (SS.out.chg hc (by simp; omega) (fun k hk => by have := LR.out k hk; simp; omega))
                  replace DD := Lib.hid (DD.out.fresh hc (by simp; omega))
                  clear hp hc i1 i2 i3 i4
                  go_wp2_with fail
                  refine (bytes_any b1 g1 _ wa QQ.out).mono ?_
                  rintro e wb (⟨-, rfl, hc⟩ | ⟨h, _⟩)
                  · replace QQ := Lib.hid (QQ.out.chg hc (by simp) (by simp))
                    replace SS := Lib.hid (SS.out.chg hc (by simp) (by simp))
                    replace DD := Lib.hid (DD.out.trans hc)
                    rw [HP10.out]
                    clear hc
                    go_wp2_with fail
                    refine (at_any b1 g1 _ _ QQ.out).mono ?_
                    rintro e w' ⟨rfl, rfl⟩
                    go_wp2_with fail
                    refine (leftP_any b1 g1 _ _ QQ.out).mono ?_
                    rintro e wc ⟨rfl, q, rfl⟩
                    replace QQ := Lib.hid (QQ.out.drewN q)
                    replace SS := Lib.hid (SS.out.chg (t := []) ((Chg.refl _ _).drewN q) (by simp) (by simp))
                    replace DD := Lib.hid (DD.out.drewN q)
                    generalize wb.drewN q = wd at *
                    rw [HPN.out]
                    go_wp2_with fail
                    refine (err_any b1 g1 _ _ QQ.out).mono ?_
                    rintro e w' ⟨rfl, rfl⟩
                    rw [HP10.out]
                    go_wp2_with fail
                    exact ⟨⟨k + 1, by omega, by go_num, QQ, SS, DD⟩, by simp [intOf]; omega⟩
                  · exact absurd h HPB.out
                · go_wp2_with fail
                  refine (errR_any br vr _ wr SS.out).mono ?_
                  rintro e wc ⟨rfl, q, rfl⟩
                  have S := Lib.hid (SS.out.chg (t := []) ((Chg.refl _ _).drewN q) (by simp) (by simp))
                  have D := Lib.hid (DD.out.drewN q)
                  clear QQ SS DD
                  generalize wr.drewN q = wd at *
                  by_cases hrb : sr.bad = 0
                  · have hrb2 : (sr.bad != 0) = false := by simpa using hrb
                    clear hrb
                    go_wp2_with fail
                    go_ret
                    exact ⟨rfl, D.out⟩
                  · have hrb2 : (sr.bad != 0) = true := by simpa using hrb
                    have HRB := Lib.hid hrb
                    clear hrb
                    go_wp2_with fail
                    refine (atR_any br vr _ _ S.out).mono ?_
                    rintro e w' ⟨rfl, rfl⟩
                    go_wp2_with fail
                    go_loopw [20] (fun i wr => ∃ k : Nat, k ≤ es.length ∧ i = .int .i64 k ∧ Hid (Rd wr br vr sr) ∧ Hid (Chg [] w wr)) (fun i _ => es.length - (intOf i).toNat)
                    case atStart => exact ⟨0, Nat.zero_le _, rfl, S, D⟩
                    case round =>
                      obtain ⟨k, hk, rfl, T, E⟩ := hrel
                      clear S D
                      by_cases hlt : k < es.length
                      · obtain ⟨d, hd⟩ : ∃ d, es[k]? = some d := ⟨_, List.getElem?_eq_getElem hlt⟩
                        obtain ⟨bb, oo, rfl, hbb3, hin⟩ := HM.out.at hd
                        have HIN := Lib.hid hin
                        have HDD := Lib.hid hd
                        clear hin hd
                        have hk0 : (0 : Int) ≤ k := Int.natCast_nonneg _
                        have hk1 : (k : Int) < es.length := by omega
                        have i1 := (HIN.out.chg hbb3 E.out).c0
                        have i2 := (HIN.out.chg hbb3 E.out).c1
                        have i3 := (HIN.out.chg hbb3 E.out).c2
                        have i4 := (HIN.out.chg hbb3 E.out).c3
                        go_wp2_with fail
                        have hst := OpD.stuck HRB.out d
                        have hre := reads_any br vr _ d wr T.out HIN.out.ok
                        rw [hst.1, hst.2.1, hst.2.2] at hre
                        clear hst
                        refine hre.mono ?_
                        clear hre
                        rintro e wb ⟨lx, rfl, ho, hr, hc⟩
                        obtain ⟨lo, lc, rfl⟩ := owns_slice ho
                        rw [List.length_nil]
                        replace T := Lib.hid hr
                        replace E := Lib.hid (E.out.fresh hc (by simp; omega))
                        clear ho hr hc i1 i2 i3 i4
                        go_wp2_with fail
                        refine (errR_any br vr _ wb T.out).mono ?_
                        rintro e wc ⟨rfl, q, rfl⟩
                        replace T := Lib.hid (T.out.chg (t := []) ((Chg.refl _ _).drewN q) (by simp) (by simp))
                        replace E := Lib.hid (E.out.drewN q)
                        generalize wb.drewN q = wd at *
                        go_wp2_with fail
                        have hen := endR_any br vr _ wd T.out
                        rw [show sr.end_ = (sr.bad, sr.wh) from by unfold RS.end_; rw [if_neg HRB.out]] at hen
                        refine hen.mono ?_
                        clear hen
                        rintro e we ⟨rfl, q2, rfl⟩
                        replace T := Lib.hid (T.out.chg (t := []) ((Chg.refl _ _).drewN q2) (by simp) (by simp))
                        replace E := Lib.hid (E.out.drewN q2)
                        generalize wd.drewN q2 = wf at *
                        go_wp2_with fail
                        refine (atR_any br vr _ wf T.out).mono ?_
                        rintro e w' ⟨rfl, rfl⟩
                        go_wp2_with fail
                        exact ⟨⟨k + 1, by omega, by go_num, T, E⟩, by simp [intOf]; omega⟩
                      · go_wp2_with fail
                        go_ret
                        exact ⟨rfl, E.out⟩
      · go_wp2_with fail
        go_ret
        exact ⟨rfl, Chg.refl _ _⟩
    · clear hm
      go_wp2_with fail
      go_ret
      exact ⟨rfl, Chg.refl _ _⟩
  · have d1 : decide ((100000 : Int) < (xs.length : Int)) = true := decide_eq_true (by omega)
    go_enter Try.func8, Try.ntmps8
    go_wp2_with fail
    refine hmuch.mono ?_
    rintro e w' ⟨m, rfl, rfl, hm⟩
    clear hmuch hm
    cases m
    · go_wp2_with fail
      refine hmuch2.mono ?_
      rintro e w' ⟨m, rfl, rfl, hm2⟩
      clear hmuch2 hm2
      cases m
      all_goals go_wp2_with fail
      all_goals go_ret
      all_goals exact ⟨rfl, Chg.refl _ _⟩
    · go_wp2_with fail
      go_ret
      exact ⟨rfl, Chg.refl _ _⟩

theorem stays_walk (size : Int) (sv bv mv : Value) (ds es : List OpD) (xs : List Int) (w : World) (ho : Ops w sv ds) (hb : Sl w bv xs) (hm : Ops w mv es) (hy : By xs) (hbx : xs.length ≤ 140737488355328) :
    Calls Try.prog 8 #[.int .i64 size, sv, bv, mv] w fun e w' => e = .returned (.bool true) ∧ Chg [] w w' := by
  by_cases hsz : 0 ≤ size ∧ size ≤ 4096
  · obtain ⟨n, rfl⟩ := Int.eq_ofNat_of_zero_le hsz.1
    exact stays_ok n (by omega) sv bv mv ds es xs w ho hb hm hy hbx
  · exact stays_bad size (by omega) sv bv mv ds es xs w ho hb hm hy hbx

end Go.Proofs.Ytbinoailpceonaa
