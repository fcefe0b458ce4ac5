/-
  XorPatches walked. By an AI agent.
-/
import Derived.Test.YtaciamnfkidmfaaXorSums
import Derived.Deep.RegionHeld3
namespace Go.Proofs.Ytaciamnfkidmfaa
open Go.RowKit

theorem lend_cell {w0 w : World} {G m1 m2 : Nat} {gs : List Nat} {ds : List RowD} (h : Lend w0 w G m1 m2 gs ds) {i g : Nat} {d : RowD} (hg : gs[i]? = some g) (hd : ds[i]? = some d) : w.cell? ⟨G, i, none⟩ = some (.slice (some ⟨g, 0, none⟩) d.bs.length (d.bs.length + 2)) := by
  obtain ⟨g', hg', hc, _⟩ := h.head hd
  rw [hg] at hg'
  obtain rfl : g = g' := by simpa using hg'
  exact hc

theorem lend_ok {w0 w : World} {G m1 m2 : Nat} {gs : List Nat} {ds : List RowD} (h : Lend w0 w G m1 m2 gs ds) (hs : ∀ d ∈ ds, By d.bs ∧ d.bs.length ≤ 1000000) {i g : Nat} {d : RowD} (hg : gs[i]? = some g) (hd : ds[i]? = some d) : Ok w (lentD g d) := by
  obtain ⟨h1, h2⟩ := hs d (List.mem_of_getElem? hd)
  exact ⟨Blk.sl (h.rows.row i g d hg hd), h1, h2⟩

set_option maxHeartbeats 4000000 in
set_option maxRecDepth 100000 in
theorem patches_walk (d0 d1 d2 : RowD) (w9 : World) (hs : ∀ d ∈ [d0, d1, d2], Sl w9 d.v d.bs ∧ By d.bs ∧ d.bs.length ≤ 140737488355328) :
    Calls Try.prog 4 #[d0.v, d1.v, d2.v] w9 fun e w' => e = .returned (.bool true) ∧ Chg [] w9 w' := by
  have hr := rws_made (c := 3) hs (by simp)
  obtain ⟨a0, c0, e0⟩ := (hs d0 (by simp)).1.slice
  obtain ⟨a1, c1, e1⟩ := (hs d1 (by simp)).1.slice
  obtain ⟨a2, c2, e2⟩ := (hs d2 (by simp)).1.slice
  have h3 : ([d0, d1, d2] : List RowD).length = 3 := rfl
  rw [show ([d0, d1, d2] : List RowD).map (·.v) = [d0.v, d1.v, d2.v] from rfl, h3] at hr
  rw [e0, e1, e2] at hr ⊢
  clear e0 e1 e2
  have rot1 : Hid (ofErr (rowsN [d2, d0, d1]) = ofErr (rowsN [d0, d1, d2])) := ofErr_swap (rowsN [d0, d1]) (rowsN [d2])
  have rot2 : Hid (ofVal (rowsN [d2, d0, d1]) = ofVal (rowsN [d0, d1, d2])) := ofVal_swap (rowsN [d0, d1]) (rowsN [d2])
  have hrv : Hid (∀ x y z, rowsN [lentD x d2, lentD y d0, lentD z d1] = rowsN [d2, d0, d1]) := fun _ _ _ => rfl
  have hrv2 : Hid (∀ x y z, rowsN [lentD x d0, lentD y d1, lentD z d2] = rowsN [d0, d1, d2]) := fun _ _ _ => rfl
  obtain ⟨b9, hb9⟩ : ∃ b9, b9 = w9.heap.size := ⟨_, rfl⟩
  rw [← hb9] at hr
  have DW : Hid (Chg [] w9 (w9.alloc (.cells #[.slice a0 d0.bs.length c0, .slice a1 d1.bs.length c1, .slice a2 d2.bs.length c2] 25))) := (Chg.refl _ _).alloc _
  have hm := much_any _ _ _ hr
  have HR := Lib.hid hr
  obtain ⟨ds, hds⟩ : ∃ ds, ds = [d0, d1, d2] := ⟨_, rfl⟩
  have g0 : ds[0]? = some d0 := by rw [hds]; rfl
  have g1 : ds[1]? = some d1 := by rw [hds]; rfl
  have g2 : ds[2]? = some d2 := by rw [hds]; rfl
  have h3 : ds.length = 3 := by rw [hds]; rfl
  rw [← hds] at hm HR hr rot1 rot2 hrv2
  replace g0 := Lib.hid g0
  replace g1 := Lib.hid g1
  replace g2 := Lib.hid g2
  have HE : Hid (∀ d ∈ ds, By d.bs ∧ d.bs.length ≤ 140737488355328) := fun d hd => (HR.out.each d hd).2
  have HX0 := Lib.hid (ofVal_bs (rows_bss hr))
  obtain ⟨w, hw0⟩ : ∃ w, w = w9.alloc (.cells #[.slice a0 d0.bs.length c0, .slice a1 d1.bs.length c1, .slice a2 d2.bs.length c2] 25) := ⟨_, rfl⟩
  rw [← hw0] at hm HR DW
  replace hw0 := Lib.hid hw0
  clear hs hr hds
  cases hmb : muchB ds with
  | true =>
    rw [hmb] at hm
    clear HR
    go_enter Try.func4, Try.ntmps4
    go_wp2_with fail
    rw [← hw0.out, ← hb9]
    refine hm.mono ?_
    rintro e w' ⟨rfl, rfl⟩
    go_wp2_with fail
    go_ret
    exact ⟨rfl, DW.out⟩
  | false =>
    rw [hmb] at hm
    obtain ⟨hn, hsm0⟩ := not_much hmb
    have hsm : Hid (∀ d ∈ ds, d.bs.length ≤ 1000000) := fun d hd => by have := hsm0 d hd; omega
    have HOK : Hid (∀ d ∈ ds, By d.bs ∧ d.bs.length ≤ 1000000) := fun d hd => ⟨(HE.out d hd).1, hsm.out d hd⟩
    have hxl := ofVal_le hsm.out
    clear hsm0 hmb
    go_enter Try.func4, Try.ntmps4
    go_wp2_with fail
    rw [← hw0.out, ← hb9]
    clear hw0 hb9
    refine hm.mono ?_
    clear hm
    rintro e w' ⟨rfl, rfl⟩
    go_wp2_with fail
    have hlr := lentRows_any _ ds w HR.out (by omega)
    refine hlr.mono ?_
    clear hlr
    rintro e w1 ⟨G, m1, m2, gs, he, L, D⟩
    rw [h3] at he
    subst he
    have hgl := L.out.rows.len
    have hB : Hid (w.heap.size ≤ w1.heap.size) := D.out.size
    have U := Lib.hid (Outs.nil w1 w1.heap.size)
    obtain ⟨x0, hx0⟩ : ∃ x, gs[0]? = some x := ⟨_, List.getElem?_eq_getElem (by omega)⟩
    obtain ⟨x1, hx1⟩ : ∃ x, gs[1]? = some x := ⟨_, List.getElem?_eq_getElem (by omega)⟩
    obtain ⟨x2, hx2⟩ : ∃ x, gs[2]? = some x := ⟨_, List.getElem?_eq_getElem (by omega)⟩
    have K0 : Hid (∀ w', Lend w w' G m1 m2 gs ds → w'.cell? ⟨G, 0, none⟩ = some (lentD x0 d0).v ∧ w'.cell? ⟨G, 1, none⟩ = some (lentD x1 d1).v ∧ w'.cell? ⟨G, 2, none⟩ = some (lentD x2 d2).v) := fun w' L' => ⟨lend_cell L' hx0 g0.out, lend_cell L' hx1 g1.out, lend_cell L' hx2 g2.out⟩
    have s1 := fun w' (L' : Lend w w' G m1 m2 gs ds) => patch_any (lentD x0 d0) (lentD x1 d1) (lentD x2 d2) w' (all3 (lend_ok L' HOK.out hx0 g0.out) (lend_ok L' HOK.out hx1 g1.out) (lend_ok L' HOK.out hx2 g2.out))
    have s2 := fun w' (L' : Lend w w' G m1 m2 gs ds) => patch_any (lentD x2 d2) (lentD x0 d0) (lentD x1 d1) w' (all3 (lend_ok L' HOK.out hx2 g2.out) (lend_ok L' HOK.out hx0 g0.out) (lend_ok L' HOK.out hx1 g1.out))
    rw [hrv.out, rot1.out, rot2.out] at s2
    rw [hrv2.out] at s1
    have s4 := fun w' (D' : Chg [] w w') => refOf_any _ _ w' (HR.out.chg D') (by omega) hsm.out
    clear hrv hrv2 rot1 rot2
    generalize ofVal (rowsN ds) = X at *
    generalize ofErr (rowsN ds) = E at *
    replace s1 := Lib.hid s1
    replace s2 := Lib.hid s2
    replace s4 := Lib.hid s4
    have hgl2 := Lib.hid hgl
    clear hgl hx0 hx1 hx2
    obtain ⟨B, hBe⟩ : ∃ B, B = w1.heap.size := ⟨_, rfl⟩
    rw [← hBe] at U hB
    have hB1 : Hid (B ≤ w1.heap.size) := by show _ ≤ _; omega
    have hG : Hid (∀ k ∈ G :: gs, k < B) := fun k hk => by
      rw [hBe]
      rcases List.mem_cons.1 hk with rfl | hk
      · exact L.out.blk.lt
      · exact L.out.rows.lt k hk
    clear hBe
    obtain ⟨k0, k1, k2⟩ := K0.out w1 L.out
    obtain ⟨vv0, hv0⟩ : ∃ v, v = (lentD x0 d0).v := ⟨_, rfl⟩
    obtain ⟨vv1, hv1⟩ : ∃ v, v = (lentD x1 d1).v := ⟨_, rfl⟩
    obtain ⟨vv2, hv2⟩ : ∃ v, v = (lentD x2 d2).v := ⟨_, rfl⟩
    rw [← hv0, ← hv1, ← hv2] at K0 s1 s2
    rw [← hv0] at k0
    rw [← hv1] at k1
    rw [← hv2] at k2
    clear hv0 hv1 hv2
    go_wp2_with fail
    go_region_held3 (fun w' : World => w'.cell? ⟨G, 0, none⟩ = some vv0 ∧ w'.cell? ⟨G, 1, none⟩ = some vv1 ∧ w'.cell? ⟨G, 2, none⟩ = some vv2) (first | exact ⟨k0, k1, k2⟩ | exact K0.out _ L2.out) (first | (go_at_call 24; refine (s1.out _ (L.out.chg (s := []) ((Chg.refl _ w1).drewN 1) (by simp))).mono ?_; rintro e w2 ⟨a, rfl, O, C⟩; have C2 : Hid (Chg [] w1 w2) := ((Chg.refl [] w1).drewN 1).trans C.out; have L2 : Hid (Lend w w2 G m1 m2 gs ds) := L.out.chg C2.out (by simp)))
    replace U := Lib.hid (U.out.more C2.out O.out hB1.out)
    replace L := L2
    replace D := Lib.hid (D.out.trans C2.out)
    replace hB1 := Lib.hid (Nat.le_trans hB1.out C2.out.size)
    clear O C C2
    clear k0 k1 k2 L2
    obtain ⟨k0, k1, k2⟩ := K0.out w2 L.out
    go_wp2_with fail
    go_region_held3 (fun w' : World => w'.cell? ⟨G, 0, none⟩ = some vv0 ∧ w'.cell? ⟨G, 1, none⟩ = some vv1 ∧ w'.cell? ⟨G, 2, none⟩ = some vv2) (first | exact ⟨k0, k1, k2⟩ | exact K0.out _ L2.out) (first | (go_at_call 24; refine (s2.out _ (L.out.chg (s := []) ((Chg.refl _ w2).drewN 1) (by simp))).mono ?_; rintro e w3 ⟨b, rfl, O, C⟩; have C2 : Hid (Chg [] w2 w3) := ((Chg.refl [] w2).drewN 1).trans C.out; have L2 : Hid (Lend w w3 G m1 m2 gs ds) := L.out.chg C2.out (by simp)))
    replace U := Lib.hid (U.out.more C2.out O.out hB1.out)
    replace L := L2
    replace D := Lib.hid (D.out.trans C2.out)
    replace hB1 := Lib.hid (Nat.le_trans hB1.out C2.out.size)
    clear O C C2
    clear k0 k1 k2 L2 K0 s1 s2
    have hwh := fun w' (L' : Lend w w' G m1 m2 gs ds) (D' : Chg [] w w') => wholeRows_any w G m1 m2 gs ds _ w' L' (HR.out.chg D') (by omega)
    have hsp := fun w' (L' : Lend w w' G m1 m2 gs ds) => spoilRows_any w G m1 m2 gs ds w' L' (by omega) hsm.out
    rw [h3] at hwh hsp
    rw [show (3 + 2 : Nat) = 5 from rfl] at hwh hsp
    replace hwh := Lib.hid hwh
    replace hsp := Lib.hid hsp
    go_wp2_with fail
    refine (hwh.out w3 L.out D.out).mono ?_
    rintro e w4 ⟨rfl, C⟩
    replace U := Lib.hid (U.out.quiet C.out)
    replace L := Lib.hid (L.out.chg C.out (by simp))
    replace D := Lib.hid (D.out.trans C.out)
    replace hB1 := Lib.hid (Nat.le_trans hB1.out C.out.size)
    clear C
    clear hwh
    go_wp2_with fail
    refine (hsp.out w4 L.out).mono ?_
    rintro e w6 ⟨rfl, C⟩
    replace U := Lib.hid (U.out.old C.out hG.out)
    replace D : Hid (Chg [] w w6) := D.out.fresh C.out (fun k hk => .inr (by
      rcases List.mem_cons.1 hk with rfl | hk
      · exact L.out.newG
      · exact L.out.rows.new k hk))
    replace hB1 := Lib.hid (Nat.le_trans hB1.out C.out.size)
    clear C L hsp
    go_wp2_with fail
    refine (s4.out w6 D.out).mono ?_
    rintro e w8 ⟨z, rfl, O, C⟩
    replace U := Lib.hid (U.out.more C.out O.out hB1.out)
    replace D := Lib.hid (D.out.trans C.out)
    replace hB1 := Lib.hid (Nat.le_trans hB1.out C.out.size)
    clear O C s4
    have K : Hid (Desk _ B w8.heap.size (.slice none 0 0) [] [outOf a X, outOf b X, outOf z X]) := Desk.begin (by simpa using U.out)
    have hb0 : Hid (w.heap.size ≤ w8.heap.size) := D.out.size
    replace D := Lib.hid (D.out.alloc (.cells #[.slice none 0 0, .slice none 0 0, .slice none 0 0, .slice none 0 0, .slice none 0 0, .slice none 0 0, .slice none 0 0, .slice none 0 0, .slice none 0 0, .slice none 0 0, .slice none 0 0, .slice none 0 0] 50))
    have hB2 : Hid (B ≤ (w8.alloc (.cells #[.slice none 0 0, .slice none 0 0, .slice none 0 0, .slice none 0 0, .slice none 0 0, .slice none 0 0, .slice none 0 0, .slice none 0 0, .slice none 0 0, .slice none 0 0, .slice none 0 0, .slice none 0 0] 50)).heap.size) := by
      have := hB1.out
      show _ ≤ _
      simp
      omega
    clear U hB1
    obtain ⟨bk, hbk⟩ : ∃ bk, bk = w8.heap.size := ⟨_, rfl⟩
    have s6 := desk_put w B bk _ [] _ a X _ (by rw [hbk]; exact K.out) (by simp) hB2.out D.out (by rw [hbk]; exact hb0.out) hB.out
    rw [← hbk] at hb0
    clear K hB2 D
    go_wp2_with fail
    rw [← hbk]
    clear hbk
    refine s6.mono ?_
    clear s6
    rintro e w11 ⟨rfl, lv1, K, hB2, D⟩
    replace K := Lib.hid (show Desk w11 B bk lv1 [outOf a X] [outOf b X, outOf z X] from K.out)
    go_wp2_with fail
    refine (desk_put w B bk lv1 _ _ b X w11 K.out (by simp) hB2.out D.out hb0.out hB.out).mono ?_
    clear K hB2
    rintro e w12 ⟨rfl, lv2, K, hB2, D⟩
    replace K := Lib.hid (show Desk w12 B bk lv2 [outOf a X, outOf b X] [outOf z X] from K.out)
    have hxi : (ints X).length ≤ 140737488355328 := by rw [ints_length]; omega
    go_wp2_with fail
    refine (known_any w12).mono ?_
    rintro e w13 ⟨rfl, C⟩
    replace K := Lib.hid (K.out.quiet C.out)
    replace D := Lib.hid (D.out.trans C.out)
    replace hB2 := Lib.hid (Nat.le_trans hB2.out C.out.size)
    clear C
    go_wp2_with fail
    refine (same_true _ _ (ints X) w13 (K.out.bk.sl (by simp)) (K.out.outs.sl (by simp)) hxi).mono ?_
    rintro e w14 ⟨rfl, q, hw⟩
    have C : Hid (Chg [] w13 w14) := by rw [hw]; exact (Chg.refl [] _).drewN _
    clear hw
    replace K := Lib.hid (K.out.quiet C.out)
    replace D := Lib.hid (D.out.trans C.out)
    replace hB2 := Lib.hid (Nat.le_trans hB2.out C.out.size)
    clear C
    go_wp2_with fail
    refine (same_true _ _ (ints X) w14 (K.out.bk.sl (by simp)) (K.out.outs.sl (by simp)) hxi).mono ?_
    rintro e w15 ⟨rfl, q, hw⟩
    have C : Hid (Chg [] w14 w15) := by rw [hw]; exact (Chg.refl [] _).drewN _
    clear hw
    replace K := Lib.hid (K.out.quiet C.out)
    replace D := Lib.hid (D.out.trans C.out)
    replace hB2 := Lib.hid (Nat.le_trans hB2.out C.out.size)
    clear C
    go_wp2_with fail
    refine (desk_own w B bk lv2 _ _ w15 K.out (by simp) hB2.out (fun p hp => by
      have : p = outOf a X ∨ p = outOf b X := by simpa using hp
      rcases this with rfl | rfl <;> rw [outOf_len] <;> omega) D.out hB.out).mono ?_
    rintro e w17 ⟨rfl, D⟩
    go_wp2_with fail
    go_ret
    exact ⟨rfl, DW.out.trans D.out⟩

end Go.Proofs.Ytaciamnfkidmfaa
