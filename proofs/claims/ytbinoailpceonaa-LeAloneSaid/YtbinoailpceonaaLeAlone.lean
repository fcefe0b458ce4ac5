/-
  LeAlone: the walk. By an AI agent.
-/
import Derived.Test.YtbinoailpceonaaRun
import Derived.Test.YtbinoailpceonaaKnown
namespace Go.Proofs.Ytbinoailpceonaa
open Go.RowKit

theorem info_u64 : (Try.prog.info? 49).map (fun i => (i.zero, i.size, i.bytes)) = some (some (.int .u64 0), 1, 8) := by kernel_rfl

set_option maxHeartbeats 2000000 in
set_option maxRecDepth 100000 in
theorem alone_walk (va vb sv : Value) (xa xb : List Int) (ds : List OpD) (w : World) (ha : Sl w va xa) (hb : Sl w vb xb) (ho : Ops w sv ds) (hya : By xa) (hyb : By xb) (hba : xa.length ≤ 140737488355328) (hbb : xb.length ≤ 140737488355328) :
    Calls Try.prog 9 #[va, vb, sv] w fun e w' => e = .returned (.bool true) ∧ Chg [] w w' := by
  have hmuch := much_any sv ds w ho
  obtain ⟨ao, c, rfl⟩ := ho.slice
  obtain ⟨aa, ac, rfl⟩ := ha.slice
  obtain ⟨ba, bc, rfl⟩ := hb.slice
  obtain ⟨i0, hi, hz0, hz1, hz2⟩ := info_parts info_u64
  have hl := ho.len
  have HO := Lib.hid ho
  have HA := Lib.hid ha
  have HB := Lib.hid hb
  have YA := Lib.hid hya
  have YB := Lib.hid hyb
  clear ho ha hb hya hyb
  have hi := Lib.hid hi
  have hz0 := Lib.hid hz0
  have hz1 := Lib.hid hz1
  have hz2 := Lib.hid hz2
  by_cases hla : xa.length ≤ 100000
  · by_cases hlb : xb.length ≤ 100000
    · have d1 : decide ((100000 : Int) < (xa.length : Int)) = false := decide_eq_false (by omega)
      have d2 : decide ((100000 : Int) < (xb.length : Int)) = false := decide_eq_false (by omega)
      go_enter Try.func9, Try.ntmps9
      go_wp2_with fail
      refine hmuch.mono ?_
      rintro e w' ⟨m, rfl, rfl, hm⟩
      clear hmuch
      cases m
      · have hds := hm rfl
        have hds2 : ds.length ≤ 100000 := Nat.le_trans (Nat.le_add_right _ _) hds
        clear hm hds
        go_wp2_with fail
        refine (read_any _ _ w HA.out hba YA.out).mono ?_
        rintro e w1 ⟨bx, vx, rfl, hr, hc, l1, l2⟩
        have RX := Lib.hid hr
        have u1 := hr.pb.lt
        have LX := Lib.hid l2
        have z1 := hc.size
        have C := Lib.hid hc
        replace HA := Lib.hid (HA.out.chg hc (by simp))
        replace HB := Lib.hid (HB.out.chg hc (by simp))
        clear hr l2 hc
        go_wp2_with fail
        refine (read_any _ _ w1 HB.out hbb YB.out).mono ?_
        rintro e w2 ⟨by_, vy, rfl, hr, hc, l3, l4⟩
        have RY := Lib.hid hr
        have u2 := hr.pb.lt
        have LY := Lib.hid l4
        have z2 := hc.size
        replace C := Lib.hid (C.out.trans hc)
        replace RX := Lib.hid (RX.out.chg hc (by simp) (by simp))
        replace HA := Lib.hid (HA.out.chg hc (by simp))
        replace HB := Lib.hid (HB.out.chg hc (by simp))
        clear hr l4 hc
        go_wp2_with fail
        refine (read_any _ _ w2 HA.out hba YA.out).mono ?_
        rintro e w3 ⟨bu, vu, rfl, hr, hc, l5, l6⟩
        have RU := Lib.hid hr
        have u3 := hr.pb.lt
        have LU := Lib.hid l6
        have z3 := hc.size
        replace C := Lib.hid (C.out.trans hc)
        replace RX := Lib.hid (RX.out.chg hc (by simp) (by simp))
        replace RY := Lib.hid (RY.out.chg hc (by simp) (by simp))
        replace HB := Lib.hid (HB.out.chg hc (by simp))
        clear hr l6 hc HA
        go_wp2_with fail
        refine (read_any _ _ w3 HB.out hbb YB.out).mono ?_
        rintro e w4 ⟨bv, vv, rfl, hr, hc, l7, l8⟩
        have RV := Lib.hid hr
        have u4 := hr.pb.lt
        have LV := Lib.hid l8
        have z4 := hc.size
        replace C := Lib.hid (C.out.trans hc)
        replace RX := Lib.hid (RX.out.chg hc (by simp) (by simp))
        replace RY := Lib.hid (RY.out.chg hc (by simp) (by simp))
        replace RU := Lib.hid (RU.out.chg hc (by simp) (by simp))
        clear hr l8 hc HB
        go_wp2_with fail
        refine (known_any w4).mono ?_
        rintro e w5 ⟨rfl, hc⟩
        have z5 := hc.size
        replace C := Lib.hid (C.out.trans hc)
        replace RX := Lib.hid (RX.out.chg hc (by simp) (by simp))
        replace RY := Lib.hid (RY.out.chg hc (by simp) (by simp))
        replace RU := Lib.hid (RU.out.chg hc (by simp) (by simp))
        replace RV := Lib.hid (RV.out.chg hc (by simp) (by simp))
        clear hc YA YB
        go_wp2_with fail
        clear d1 d2
        go_loopw [11, 12, 13] (fun lv rv i wr => ∃ k : Nat, k ≤ ds.length ∧ i = .int .i64 k ∧ Hid (Rd wr bx vx ((RS.mk xa 0 0 0).run (ds.take k))) ∧ Hid (Rd wr by_ vy ((RS.mk xb 0 0 0).run (ds.take k))) ∧
            Hid (Rd wr bu vu ⟨xa, 0, 0, 0⟩) ∧ Hid (Rd wr bv vv ⟨xb, 0, 0, 0⟩) ∧ Hid (wr.ownsRow w5.heap.size 49 1 lv k (((RS.mk xa 0 0 0).nums (ds.take k)).map (Value.int .u64))) ∧
            Hid (wr.ownsRow w5.heap.size 49 1 rv k (((RS.mk xb 0 0 0).nums (ds.take k)).map (Value.int .u64))) ∧ Hid (∀ g, lv.ownBlock = some g → rv.ownBlock ≠ some g) ∧ w5.heap.size ≤ wr.heap.size ∧ Hid (Chg [] w wr)) (fun _ _ i _ => ds.length - (intOf i).toNat)
        case atStart => exact ⟨0, Nat.zero_le _, rfl, RX, RY, RU, RV, World.ownsRow_nil _ _ _ _, World.ownsRow_nil _ _ _ _, (fun g h => by cases h), Nat.le_refl _, C⟩
        case round =>
          obtain ⟨k, hk, rfl, QX, QY, QU, QV, OL, OR, ND, zr, D⟩ := hrel
          clear RX RY RU RV C
          by_cases hlt : k < ds.length
          · obtain ⟨d, hd⟩ : ∃ d, ds[k]? = some d := ⟨_, List.getElem?_eq_getElem hlt⟩
            obtain ⟨bb, oo, rfl, hbb1, hin⟩ := HO.out.at hd
            have HIN := Lib.hid hin
            have HDD := Lib.hid hd
            clear hin hd
            have i1 := (HIN.out.chg hbb1 D.out).c0
            have i2 := (HIN.out.chg hbb1 D.out).c1
            have i3 := (HIN.out.chg hbb1 D.out).c2
            have i4 := (HIN.out.chg hbb1 D.out).c3
            have hk0 : (0 : Int) ≤ k := Int.natCast_nonneg _
            have hk1 : (k : Int) < ds.length := by omega
            go_wp2_with fail
            refine (reads_any bx vx _ d wr QX.out HIN.out.ok).mono ?_
            rintro e wa ⟨lx, rfl, ho, hr, hc⟩
            rw [← RS.run_snoc, ← take_snoc HDD.out] at hr
            replace QX := Lib.hid hr
            replace QY := Lib.hid (QY.out.chg hc (by simp; omega) (fun k hk => by have := LY.out k hk; simp; omega))
            replace QU := Lib.hid (QU.out.chg hc (by simp; omega) (fun k hk => by have := LU.out k hk; simp; omega))
            replace QV := Lib.hid (QV.out.chg hc (by simp; omega) (fun k hk => by have := LV.out k hk; simp; omega))
            replace OL := Lib.hid (owns_chg OL.out hc (fun k hk => by have := (OL.out.lt k hk).1; simp; omega))
            replace OR := Lib.hid (owns_chg OR.out hc (fun k hk => by have := (OR.out.lt k hk).1; simp; omega))
            replace D := Lib.hid (D.out.fresh hc (by simp; omega))
            have za := hc.size
            clear ho hr hc i1 i2 i3 i4
            have i1 := (HIN.out.chg hbb1 D.out).c0
            have i2 := (HIN.out.chg hbb1 D.out).c1
            have i3 := (HIN.out.chg hbb1 D.out).c2
            have i4 := (HIN.out.chg hbb1 D.out).c3
            obtain ⟨x, hx⟩ : ∃ x, d.num ((RS.mk xa 0 0 0).run (ds.take k)) = x := ⟨_, rfl⟩
            rw [hx]
            have HX := Lib.hid hx
            clear hx
            go_wp2_with fail
            refine (reads_any by_ vy _ d wa QY.out HIN.out.ok).mono ?_
            rintro e wb ⟨ly, rfl, ho, hr, hc⟩
            rw [← RS.run_snoc, ← take_snoc HDD.out] at hr
            replace QY := Lib.hid hr
            replace QX := Lib.hid (QX.out.chg hc (by simp; omega) (fun k hk => by have := LX.out k hk; simp; omega))
            replace QU := Lib.hid (QU.out.chg hc (by simp; omega) (fun k hk => by have := LU.out k hk; simp; omega))
            replace QV := Lib.hid (QV.out.chg hc (by simp; omega) (fun k hk => by have := LV.out k hk; simp; omega))
            replace OL := Lib.hid (owns_chg OL.out hc (fun k hk => by have := (OL.out.lt k hk).1; simp; omega))
            replace OR := Lib.hid (owns_chg OR.out hc (fun k hk => by have := (OR.out.lt k hk).1; simp; omega))
            replace D := Lib.hid (D.out.fresh hc (by simp; omega))
            have zb := hc.size
            clear ho hr hc i1 i2 i3 i4
            obtain ⟨y, hy⟩ : ∃ y, d.num ((RS.mk xb 0 0 0).run (ds.take k)) = y := ⟨_, rfl⟩
            rw [hy]
            have HY := Lib.hid hy
            clear hy
            go_wp2_with (with_reducible refine wpList_append_two _ rfl (.tmp 86) (.tmp 88) 88 rfl w5.heap.size 49 i0 (.int .u64 0) 1 8 Try.underlying88 hi.out hz0.out hz1.out hz2.out rfl (by decide) _ k _ rfl (OL.out.alloc _) ⟨wb.heap.size, 0, none⟩ 1 1 [.int .u64 x] rfl rfl (new_cell _ _ _) (by simp [Value.oneCell']) (by unfold maxLen; omega) (by omega) (by simp; omega) ?_)
            intro lv' wc ol gr nb
            have HL := Lib.hid (fun k hk => OL.out.lt k hk)
            have cc := Lib.hid (((Chg.refl u11.ownBlock.toList wb).alloc (.cells #[.int .u64 x] 49)).grown gr.out (fun k hk => .inl (by rw [hk]; simp)))
            have MM : Hid (∀ k, k ∈ u11.ownBlock.toList → w5.heap.size ≤ k) := fun k hk => (HL.out k (by simpa using hk)).1
            have NN : Hid (∀ k, k < w5.heap.size → k ∉ u11.ownBlock.toList) := fun k hk hm => by have := MM.out k hm; omega
            replace QX := Lib.hid (QX.out.chg cc.out (NN.out _ (by omega)) (fun k hk => NN.out _ (by have := LX.out k hk; omega)))
            replace QY := Lib.hid (QY.out.chg cc.out (NN.out _ (by omega)) (fun k hk => NN.out _ (by have := LY.out k hk; omega)))
            replace QU := Lib.hid (QU.out.chg cc.out (NN.out _ (by omega)) (fun k hk => NN.out _ (by have := LU.out k hk; omega)))
            replace QV := Lib.hid (QV.out.chg cc.out (NN.out _ (by omega)) (fun k hk => NN.out _ (by have := LV.out k hk; omega)))
            have UR := Lib.hid (fun k hk => OR.out.lt k hk)
            replace OR := Lib.hid (owns_chg OR.out cc.out (fun k hk hm => ND.out k (by simpa using hm) hk))
            replace D := Lib.hid (D.out.fresh cc.out (fun k hm => .inr (by have := MM.out k hm; omega)))
            have zc := cc.out.size
            have ND2 : Hid (∀ g, lv'.ownBlock = some g → u12.ownBlock ≠ some g) := fun g hg he => by
              rcases nb.out with h | h
              · exact ND.out g (by rw [← h]; exact hg) he
              · rw [h] at hg
                have := (UR.out g he).2
                simp at hg
                omega
            have OL2 : Hid (wc.ownsRow w5.heap.size 49 1 lv' (k + 1) (((RS.mk xa 0 0 0).nums (ds.take (k + 1))).map (Value.int .u64))) := by
              have := ol.out
              rw [take_snoc HDD.out, RS.nums_snoc, List.map_append, HX.out]
              exact this
            clear OL ol gr nb HL cc MM NN UR ND
            go_wp2_with (with_reducible refine wpList_append_two _ rfl (.tmp 90) (.tmp 92) 88 rfl w5.heap.size 49 i0 (.int .u64 0) 1 8 Try.underlying88 hi.out hz0.out hz1.out hz2.out rfl (by decide) _ k _ rfl (OR.out.alloc _) ⟨wc.heap.size, 0, none⟩ 1 1 [.int .u64 y] rfl rfl (new_cell _ _ _) (by simp [Value.oneCell']) (by unfold maxLen; omega) (by omega) (by simp; omega) ?_)
            intro rv' we ol gr nb
            have HL := Lib.hid (fun k hk => OR.out.lt k hk)
            have cc := Lib.hid (((Chg.refl u12.ownBlock.toList wc).alloc (.cells #[.int .u64 y] 49)).grown gr.out (fun k hk => .inl (by rw [hk]; simp)))
            have MM : Hid (∀ k, k ∈ u12.ownBlock.toList → w5.heap.size ≤ k) := fun k hk => (HL.out k (by simpa using hk)).1
            have NN : Hid (∀ k, k < w5.heap.size → k ∉ u12.ownBlock.toList) := fun k hk hm => by have := MM.out k hm; omega
            replace QX := Lib.hid (QX.out.chg cc.out (NN.out _ (by omega)) (fun k hk => NN.out _ (by have := LX.out k hk; omega)))
            replace QY := Lib.hid (QY.out.chg cc.out (NN.out _ (by omega)) (fun k hk => NN.out _ (by have := LY.out k hk; omega)))
            replace QU := Lib.hid (QU.out.chg cc.out (NN.out _ (by omega)) (fun k hk => NN.out _ (by have := LU.out k hk; omega)))
            replace QV := Lib.hid (QV.out.chg cc.out (NN.out _ (by omega)) (fun k hk => NN.out _ (by have := LV.out k hk; omega)))
            have UL := Lib.hid (fun k hk => OL2.out.lt k hk)
            replace OL2 := Lib.hid (owns_chg OL2.out cc.out (fun k hk hm => ND2.out k hk (by simpa using hm)))
            replace D := Lib.hid (D.out.fresh cc.out (fun k hm => .inr (by have := MM.out k hm; omega)))
            have ze := cc.out.size
            have ND3 : Hid (∀ g, lv'.ownBlock = some g → rv'.ownBlock ≠ some g) := fun g hg he => by
              rcases nb.out with h | h
              · exact ND2.out g hg (by rw [← h]; exact he)
              · rw [h] at he
                have := (UL.out g hg).2
                simp at he
                omega
            have OR2 : Hid (we.ownsRow w5.heap.size 49 1 rv' (k + 1) (((RS.mk xb 0 0 0).nums (ds.take (k + 1))).map (Value.int .u64))) := by
              have := ol.out
              rw [take_snoc HDD.out, RS.nums_snoc, List.map_append, HY.out]
              exact this
            clear OR ol gr nb HL cc MM NN UL ND2
            go_wp2_with fail
            exact ⟨⟨k + 1, by omega, by go_num, QX, QY, QU, QV, OL2, OR2, ND3, by omega, D⟩, by simp [intOf]; omega⟩
          · obtain rfl : k = ds.length := by omega
            rw [List.take_length] at QX QY OL OR
            clear hk hlt
            go_wp2_with fail
            obtain ⟨w6, hw6⟩ : ∃ w6 : World, w6 = wr := ⟨_, rfl⟩
            subst hw6
            obtain ⟨lo, lc, rfl⟩ := owns_slice OL.out
            obtain ⟨ro, rc, rfl⟩ := owns_slice OR.out
            go_loopw [18] (fun i wr => ∃ k : Nat, k ≤ ds.length ∧ i = .int .i64 k ∧ Hid (Rd wr bu vu ((RS.mk xa 0 0 0).run (ds.take k))) ∧ Hid (Chg [bu] w6 wr)) (fun i _ => ds.length - (intOf i).toNat)
            case atStart => exact ⟨0, Nat.zero_le _, rfl, QU, Chg.refl _ _⟩
            case round =>
              obtain ⟨k, hk, rfl, Q, E⟩ := hrel
              clear QU
              by_cases hlt : k < ds.length
              · obtain ⟨d, hd⟩ : ∃ d, ds[k]? = some d := ⟨_, List.getElem?_eq_getElem hlt⟩
                obtain ⟨bb, oo, rfl, hbb1, hin⟩ := HO.out.at hd
                have HIN := Lib.hid hin
                have HDD := Lib.hid hd
                clear hin hd
                have D2 := Lib.hid (D.out.fresh E.out (by simp; omega))
                have i1 := (HIN.out.chg hbb1 D2.out).c0
                have i2 := (HIN.out.chg hbb1 D2.out).c1
                have i3 := (HIN.out.chg hbb1 D2.out).c2
                have i4 := (HIN.out.chg hbb1 D2.out).c3
                have hk0 : (0 : Int) ≤ k := Int.natCast_nonneg _
                have hk1 : (k : Int) < ds.length := by omega
                go_wp2_with fail
                refine (reads_any bu vu _ d wr Q.out HIN.out.ok).mono ?_
                rintro e wa ⟨lx, rfl, ho, hr, hc⟩
                rw [← RS.run_snoc, ← take_snoc HDD.out] at hr
                replace Q := Lib.hid hr
                replace E := Lib.hid (E.out.trans hc)
                clear ho hr hc i1 i2 i3 i4 D2
                obtain ⟨x, hx⟩ : ∃ x, d.num ((RS.mk xa 0 0 0).run (ds.take k)) = x := ⟨_, rfl⟩
                rw [hx]
                obtain ⟨g, rfl, hcell⟩ := owns_at OL.out (k := k) (u := .int .u64 x) (by rw [List.getElem?_map, RS.nums_get _ _ _ _ HDD.out, hx]; rfl)
                have hcell2 : wa.cell? ⟨g, k, none⟩ = some (.int .u64 x) := by
                  rw [← hcell]
                  exact E.out.cell (p := ⟨g, k, none⟩) (World.block_lt_of_cell? w6 _ hcell) (by have := (OL.out.lt g rfl).1; simp; omega)
                clear hx hcell
                go_wp2_with fail
                exact ⟨⟨k + 1, by omega, by go_num, Q, E⟩, by simp [intOf]; omega⟩
              · obtain rfl : k = ds.length := by omega
                rw [List.take_length] at Q
                clear hk hlt
                have hc := E.out
                replace QX := Lib.hid (QX.out.chg hc (by simp; omega) (fun k hk => by have := LX.out k hk; simp; omega))
                replace QY := Lib.hid (QY.out.chg hc (by simp; omega) (fun k hk => by have := LY.out k hk; simp; omega))
                replace QV := Lib.hid (QV.out.chg hc (by simp; omega) (fun k hk => by have := LV.out k hk; simp; omega))
                have QU := Q
                replace OR := Lib.hid (owns_chg OR.out hc (fun k hk => by have := (OR.out.lt k hk).1; simp; omega))
                replace D := Lib.hid (D.out.fresh hc (by simp; omega))
                have z7 := hc.size
                clear hc E Q OL ND
                obtain ⟨w7, hw7⟩ : ∃ w7 : World, w7 = wr := ⟨_, rfl⟩
                subst hw7
                go_wp2_with fail
                go_loopw [21] (fun i wr => ∃ k : Nat, k ≤ ds.length ∧ i = .int .i64 k ∧ Hid (Rd wr bv vv ((RS.mk xb 0 0 0).run (ds.take k))) ∧ Hid (Chg [bv] w7 wr)) (fun i _ => ds.length - (intOf i).toNat)
                case atStart => exact ⟨0, Nat.zero_le _, rfl, QV, Chg.refl _ _⟩
                case round =>
                  obtain ⟨k, hk, rfl, Q, E⟩ := hrel
                  clear QV
                  by_cases hlt : k < ds.length
                  · obtain ⟨d, hd⟩ : ∃ d, ds[k]? = some d := ⟨_, List.getElem?_eq_getElem hlt⟩
                    obtain ⟨bb, oo, rfl, hbb1, hin⟩ := HO.out.at hd
                    have HIN := Lib.hid hin
                    have HDD := Lib.hid hd
                    clear hin hd
                    have D2 := Lib.hid (D.out.fresh E.out (by simp; omega))
                    have i1 := (HIN.out.chg hbb1 D2.out).c0
                    have i2 := (HIN.out.chg hbb1 D2.out).c1
                    have i3 := (HIN.out.chg hbb1 D2.out).c2
                    have i4 := (HIN.out.chg hbb1 D2.out).c3
                    have hk0 : (0 : Int) ≤ k := Int.natCast_nonneg _
                    have hk1 : (k : Int) < ds.length := by omega
                    go_wp2_with fail
                    refine (reads_any bv vv _ d wr Q.out HIN.out.ok).mono ?_
                    rintro e wa ⟨lx, rfl, ho, hr, hc⟩
                    rw [← RS.run_snoc, ← take_snoc HDD.out] at hr
                    replace Q := Lib.hid hr
                    replace E := Lib.hid (E.out.trans hc)
                    clear ho hr hc i1 i2 i3 i4 D2
                    obtain ⟨x, hx⟩ : ∃ x, d.num ((RS.mk xb 0 0 0).run (ds.take k)) = x := ⟨_, rfl⟩
                    rw [hx]
                    obtain ⟨g, rfl, hcell⟩ := owns_at OR.out (k := k) (u := .int .u64 x) (by rw [List.getElem?_map, RS.nums_get _ _ _ _ HDD.out, hx]; rfl)
                    have hcell2 : wa.cell? ⟨g, k, none⟩ = some (.int .u64 x) := by
                      rw [← hcell]
                      exact E.out.cell (p := ⟨g, k, none⟩) (World.block_lt_of_cell? w7 _ hcell) (by have := (OR.out.lt g rfl).1; simp; omega)
                    clear hx hcell
                    go_wp2_with fail
                    exact ⟨⟨k + 1, by omega, by go_num, Q, E⟩, by simp [intOf]; omega⟩
                  · obtain rfl : k = ds.length := by omega
                    rw [List.take_length] at Q
                    clear hk hlt
                    have hc := E.out
                    replace QX := Lib.hid (QX.out.chg hc (by simp; omega) (fun k hk => by have := LX.out k hk; simp; omega))
                    replace QY := Lib.hid (QY.out.chg hc (by simp; omega) (fun k hk => by have := LY.out k hk; simp; omega))
                    replace QU := Lib.hid (QU.out.chg hc (by simp; omega) (fun k hk => by have := LU.out k hk; simp; omega))
                    have QV := Q
                    replace D := Lib.hid (D.out.fresh hc (by simp; omega))
                    clear hc E Q OR
                    generalize (RS.mk xa 0 0 0).run ds = sa at *
                    generalize (RS.mk xb 0 0 0).run ds = sb at *
                    go_wp2_with fail
                    refine (atR_any bx vx _ wr QX.out).mono ?_
                    rintro e w' ⟨rfl, rfl⟩
                    go_wp2_with fail
                    refine (atR_any bu vu _ wr QU.out).mono ?_
                    rintro e w' ⟨rfl, rfl⟩
                    go_wp2_with fail
                    refine (atR_any by_ vy _ wr QY.out).mono ?_
                    rintro e w' ⟨rfl, rfl⟩
                    go_wp2_with fail
                    refine (atR_any bv vv _ wr QV.out).mono ?_
                    rintro e w' ⟨rfl, rfl⟩
                    go_wp2_with fail
                    refine (leftR_any bx vx _ _ QX.out).mono ?_
                    rintro e w' ⟨rfl, q0, rfl⟩
                    replace QX := Lib.hid (QX.out.chg (t := []) ((Chg.refl _ _).drewN q0) (by simp) (by simp))
                    replace QU := Lib.hid (QU.out.chg (t := []) ((Chg.refl _ _).drewN q0) (by simp) (by simp))
                    replace QY := Lib.hid (QY.out.chg (t := []) ((Chg.refl _ _).drewN q0) (by simp) (by simp))
                    replace QV := Lib.hid (QV.out.chg (t := []) ((Chg.refl _ _).drewN q0) (by simp) (by simp))
                    replace D := Lib.hid (D.out.drewN q0)
                    generalize wr.drewN q0 = wr0 at *
                    go_wp2_with fail
                    refine (leftR_any bu vu _ _ QU.out).mono ?_
                    rintro e w' ⟨rfl, q1, rfl⟩
                    replace QX := Lib.hid (QX.out.chg (t := []) ((Chg.refl _ _).drewN q1) (by simp) (by simp))
                    replace QU := Lib.hid (QU.out.chg (t := []) ((Chg.refl _ _).drewN q1) (by simp) (by simp))
                    replace QY := Lib.hid (QY.out.chg (t := []) ((Chg.refl _ _).drewN q1) (by simp) (by simp))
                    replace QV := Lib.hid (QV.out.chg (t := []) ((Chg.refl _ _).drewN q1) (by simp) (by simp))
                    replace D := Lib.hid (D.out.drewN q1)
                    generalize wr0.drewN q1 = wr1 at *
                    go_wp2_with fail
                    refine (leftR_any by_ vy _ _ QY.out).mono ?_
                    rintro e w' ⟨rfl, q2, rfl⟩
                    replace QX := Lib.hid (QX.out.chg (t := []) ((Chg.refl _ _).drewN q2) (by simp) (by simp))
                    replace QU := Lib.hid (QU.out.chg (t := []) ((Chg.refl _ _).drewN q2) (by simp) (by simp))
                    replace QY := Lib.hid (QY.out.chg (t := []) ((Chg.refl _ _).drewN q2) (by simp) (by simp))
                    replace QV := Lib.hid (QV.out.chg (t := []) ((Chg.refl _ _).drewN q2) (by simp) (by simp))
                    replace D := Lib.hid (D.out.drewN q2)
                    generalize wr1.drewN q2 = wr2 at *
                    go_wp2_with fail
                    refine (leftR_any bv vv _ _ QV.out).mono ?_
                    rintro e w' ⟨rfl, q3, rfl⟩
                    replace QX := Lib.hid (QX.out.chg (t := []) ((Chg.refl _ _).drewN q3) (by simp) (by simp))
                    replace QU := Lib.hid (QU.out.chg (t := []) ((Chg.refl _ _).drewN q3) (by simp) (by simp))
                    replace QY := Lib.hid (QY.out.chg (t := []) ((Chg.refl _ _).drewN q3) (by simp) (by simp))
                    replace QV := Lib.hid (QV.out.chg (t := []) ((Chg.refl _ _).drewN q3) (by simp) (by simp))
                    replace D := Lib.hid (D.out.drewN q3)
                    generalize wr2.drewN q3 = wr3 at *
                    go_wp2_with fail
                    go_ret
                    exact ⟨rfl, D.out⟩
      · go_wp2_with fail
        go_ret
        exact ⟨rfl, Chg.refl _ _⟩
    · have d1 : decide ((100000 : Int) < (xa.length : Int)) = false := decide_eq_false (by omega)
      have d2 : decide ((100000 : Int) < (xb.length : Int)) = true := decide_eq_true (by omega)
      go_enter Try.func9, Try.ntmps9
      go_wp2_with fail
      refine hmuch.mono ?_
      rintro e w' ⟨m, rfl, rfl, hm⟩
      clear hmuch hm
      cases m
      all_goals go_wp2_with fail
      all_goals go_ret
      all_goals exact ⟨rfl, Chg.refl _ _⟩
  · have d1 : decide ((100000 : Int) < (xa.length : Int)) = true := decide_eq_true (by omega)
    go_enter Try.func9, Try.ntmps9
    go_wp2_with fail
    refine hmuch.mono ?_
    rintro e w' ⟨m, rfl, rfl, hm⟩
    clear hmuch hm
    cases m
    all_goals go_wp2_with fail
    all_goals go_ret
    all_goals exact ⟨rfl, Chg.refl _ _⟩
end Go.Proofs.Ytbinoailpceonaa
