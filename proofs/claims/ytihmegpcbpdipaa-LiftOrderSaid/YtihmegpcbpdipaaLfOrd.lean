/-
  LiftOrder behind its first loop: what comes out is looked at. By an AI agent.
-/
import Derived.Test.YtihmegpcbpdipaaLfTail2
import Derived.Deep.RegionHeld3
import Derived.Deep.CutBlock
import Derived.Deep.DeepCutAuto
namespace Go.Proofs.Ytihmegpcbpdipaa
open Go.RowKit

noncomputable def orderRest : Code := (Try.f4.body.bind (codeFrom 22)).getD .skip

set_option maxHeartbeats 8000000 in
set_option maxRecDepth 1000000 in
theorem order_rest {co : Code} (hco : orderRest = co) (C : LiftCons) (W wr : World) (row P pc : Nat) (po : Option Addr) (A : List Pv) (S : List Pd) (G : List Nat) (l0 l1 l2 l3 l4 l9 l10 l11 l12 l13 l14 l15 l16 l17 l18 l19 l20 l21 l22 l23 l24 l25 l26 l27 l28 l29 l30 l31 l32 l33 l34 l35 l36 l37 l38 l39 l40 l41 l42 l43 l44 l45 l46 l47 l48 l49 l50 l51 l52 l53 l54 l55 l56 l57 l58 l59 l60 l61 l62 l63 l64 l65 l66 l67 l68 l69 l70 l71 l72 l73 l74 l75 l76 l77 l78 l79 l80 l81 l82 l83 l84 l85 l86 l87 l88 l89 l90 l91 l92 l93 l94 l95 l96 l97 l98 l99 l100 l101 l102 l103 l104 l105 l106 l107 l108 l109 l110 l111 l112 l113 l114 l115 l116 l117 l118 l119 l120 l121 l122 l123 l124 l125 l126 l127 l128 l129 l130 l131 l132 l133 l134 l135 l136 l137 l138 l139 l140 l141 l142 l143 l144 l145 l146 l147 l148 l149 l150 l151 l152 l153 l154 l155 l156 l157 l158 l159 l160 l161 l162 l163 l164 l165 l166 l167 l168 l169 l170 l171 l172 l173 l174 l175 l176 l177 l178 l179 l180 l181 l182 l183 l184 l185 l186 l187 l188 l189 l190 l191 l192 l193 l194 l195 l196 l197 l198 l199 l200 l201 l202 l203 l204 l205 l206 l207 l208 l209 l210 l211 l212 l213 l214 l215 l216 l217 l218 l219 l220 l221 l222 l223 l224 l225 l226 l227 l228 l229 l230 l231 l232 l233 l234 l235 l236 l237 l238 l239 l240 l241 l242 l243 l244 l245 l246 l247 l248 l249 l250 l251 l252 l253 l254 l255 l256 l257 l258 l259 l260 l261 l262 l263 l264 l265 l266 l267 l268 l269 l270 l271 l272 l273 l274 l275 : Value)
    (ME : Hid (∀ x, x ∈ dOf A ↔ x ∈ S)) (SR : Hid (Lf.Srt S)) (LS : Hid (S.length = A.length)) (LA : Hid (A.length ≤ 300)) (EA : Hid (∀ p ∈ A, p.1.m ≤ 15 ∧ p.1.r ≤ 4095 ∧ p.1.bs.length = 128 ∧ By (ints p.1.bs))) (FW : Hid (Few S))
    (H : Hid (Side W wr [C.T P S row G, listT (.slice po A.length pc) A, dataT A])) :
    Code.wp Try.prog co (bodyPost Try.prog Try.f4 (Holds W)) ⟨#[l0, l1, l2, l3, l4, .int .i64 (row : Int), .pointer (some ⟨P, 0, none⟩), .int .u16 0, .slice po A.length pc, l9, l10, l11, l12, l13, l14, l15, l16, l17, l18, l19, l20, l21, l22, l23, l24, l25, l26, l27, l28, l29, l30, l31, l32, l33, l34, l35, l36, l37, l38, l39, l40, l41, l42, l43, l44, l45, l46, l47, l48, l49, l50, l51, l52, l53, l54, l55, l56, l57, l58, l59, l60, l61, l62, l63, l64, l65, l66, l67, l68, l69, l70, l71, l72, l73, l74, l75, l76, l77, l78, l79, l80, l81, l82, l83, l84, l85, l86, l87, l88, l89, l90, l91, l92, l93, l94, l95, l96, l97, l98, l99, l100, l101, l102, l103, l104, l105, l106, l107, l108, l109, l110, l111, l112, l113, l114, l115, l116, l117, l118, l119, l120, l121, l122, l123, l124, l125, l126, l127, l128, l129, l130, l131, l132, l133, l134, l135, l136, l137, l138, l139, l140, l141, l142, l143, l144, l145, l146, l147, l148, l149, l150, l151, l152, l153, l154, l155, l156, l157, l158, l159, l160, l161, l162, l163, l164, l165, l166, l167, l168, l169, l170, l171, l172, l173, l174, l175, l176, l177, l178, l179, l180, l181, l182, l183, l184, l185, l186, l187, l188, l189, l190, l191, l192, l193, l194, l195, l196, l197, l198, l199, l200, l201, l202, l203, l204, l205, l206, l207, l208, l209, l210, l211, l212, l213, l214, l215, l216, l217, l218, l219, l220, l221, l222, l223, l224, l225, l226, l227, l228, l229, l230, l231, l232, l233, l234, l235, l236, l237, l238, l239, l240, l241, l242, l243, l244, l245, l246, l247, l248, l249, l250, l251, l252, l253, l254, l255, l256, l257, l258, l259, l260, l261, l262, l263, l264, l265, l266, l267, l268, l269, l270, l271, l272, l273, l274, l275], []⟩ wr := by
  subst hco
  conv => arg 2; whnf
  go_wp2_with fail
  refine (C.all W wr _ P row S G SR.out FW.out H.out).mono ?_
  rintro e w5 ⟨v, B, G3, rfl, HB, H5⟩
  clear H
  have LB : Hid (B.length = A.length) := by
    have h := congrArg List.length HB.out
    unfold dOf at h
    rw [List.length_map, Lf.way_len, LS.out] at h
    exact h
  have OB := Lib.hid (show OwnW 3 w5 0 49 v (B.map pvSlot) from H5.out.get 1 rfl)
  obtain ⟨bo, bc, hv⟩ := OB.out.slice
  rw [List.length_map, LB.out] at hv
  subst hv
  have CL : Hid (∀ n, Calls Try.prog 22 #[.pointer (some ⟨P, 0, none⟩)] (w5.drewN n) fun e w' => e = .returned (.int .i64 (([] : List Pd).length : Int)) ∧ ∃ q, w' = (w5.drewN n).drewN q) := fun n => C.len _ P _ [] G3 ((H5.out.quiet ((Chg.refl [] _).drewN n)).get 0 rfl) (by show ([] : List Pd).length ≤ 100000; simp)
  go_wp2_with fail
  refine (CL.out 0).mono ?_
  rintro e w6 ⟨rfl, q1, rfl⟩
  have H6 := Lib.hid (H5.out.quiet (((Chg.refl [] w5).drewN 0).drewN q1))
  clear CL OB H5
  generalize (w5.drewN 0).drewN q1 = w6 at *
  go_wp2_with fail
  go_loopw [17, 18] (fun rb i w7 => ∃ (t : Nat) (q : Bool), t ≤ A.length ∧ i = .int .i64 t ∧ rb = .bool q ∧ Hid (q = rnd row (dOf B) t) ∧ Hid (Chg [] w6 w7)) (fun _ i _ => A.length - (intOf i).toNat)
  case atStart => exact ⟨0, false, Nat.zero_le _, rfl, rfl, rfl, Chg.refl _ _⟩
  case round =>
    obtain ⟨t, q, ht, rfl, rfl, RQ, CH⟩ := hrel
    have WT := Lib.hid (wrap_in (z := (t : Int) + 1) (by have := LA.out; omega) (by have := LA.out; omega))
    by_cases htl : t < A.length
    case neg =>
      have hge : ¬ (t : Int) < A.length := by omega
      go_wp2_with fail
      go_ret
      exact ⟨rfl, H6.out.chg.trans CH.out⟩
    obtain ⟨y, hy⟩ : ∃ y, B[t]? = some y := ⟨_, List.getElem?_eq_getElem (by rw [LB.out]; exact htl)⟩
    have HY := Lib.hid hy
    have DY : Hid ((dOf B)[t]? = some y.1) := by show _ = _; unfold dOf; rw [List.getElem?_map, hy]; rfl
    have INA : Hid (∃ (j : Nat) (z : Pv), A[j]? = some z ∧ z.1 = y.1) := by
      have h1 : y.1 ∈ dOf B := List.mem_of_getElem? DY.out
      rw [HB.out] at h1
      obtain ⟨z, hz, e⟩ := List.mem_map.1 ((ME.out _).2 (Lf.mem_way.1 h1))
      obtain ⟨j, hj⟩ := List.mem_iff_getElem?.1 hz
      exact ⟨j, z, hj, e⟩
    have H7 := Lib.hid (H6.out.quiet CH.out)
    obtain ⟨g, e2, d0, d1, d2⟩ := least_of_cells (show OwnW 3 wr 0 49 (.slice bo B.length bc) (B.map pvSlot) from by rw [LB.out]; exact H7.out.get 1 rfl).rd hy
    subst e2
    obtain ⟨yo, yn, yc, hyv⟩ := (show Pool wr (B.map pvRow) from H7.out.get 2 rfl).ok y (List.mem_of_getElem? hy)
    have SY := Lib.hid (data_sl H7.out 2 rfl hy)
    have HTL := Lib.hid htl
    have ht0 : (0 : Int) ≤ t := Int.natCast_nonneg _
    have ht1 : (t : Int) < A.length := by omega
    clear htl hy ht
    obtain ⟨⟨ym, yr, yb⟩, yv⟩ := y
    dsimp only at d0 d1 d2 hyv SY
    subst hyv
    have BY : Hid ((ints yb).length ≤ 140737488355328) := by
      have h1 := List.mem_of_getElem? DY.out
      rw [HB.out] at h1
      obtain ⟨z, hz, e⟩ := List.mem_map.1 ((ME.out _).2 (Lf.mem_way.1 h1))
      show _ ≤ _
      have := (EA.out z hz).2.2.1
      rw [e] at this
      dsimp only at this
      rw [ints_length, this]
      decide
    go_upto_block 6 with fail
    go_cut [19, 20] from 127 to 275 (fun s19 s20 wx => s19 = .bool true ∧ Hid (Chg [] wr wx))
    case first =>
      go_wp2_with fail
      go_loopw [19, 20] (fun fb j w8 => ∃ (u : Nat) (f : Bool), u ≤ A.length ∧ j = .int .i64 u ∧ fb = .bool f ∧ Hid (∀ (j : Nat) (z : Pv), j < u → A[j]? = some z → z.1 = ⟨ym, yr, yb⟩ → f = true) ∧ Hid (Chg [] wr w8)) (fun _ j _ => A.length - (intOf j).toNat)
      case atStart => exact ⟨0, false, Nat.zero_le _, rfl, rfl, (fun j z hj => absurd hj (by omega)), Chg.refl _ _⟩
      case round =>
        obtain ⟨u, f, hu, rfl, rfl, FF, CW⟩ := hrel
        have WU := Lib.hid (wrap_in (z := (u : Int) + 1) (by have := LA.out; omega) (by have := LA.out; omega))
        by_cases hul : u < A.length
        case neg =>
          obtain rfl : u = A.length := by omega
          obtain rfl : f = true := by
            obtain ⟨j, z, hj, e⟩ := INA.out
            exact FF.out j z (List.getElem?_eq_some_iff.1 hj).1 hj e
          have hge : ¬ ((A.length : Nat) : Int) < A.length := by omega
          clear hul
          go_wp2_with fail
          go_meet
          exact ⟨rfl, CW⟩
        have HUL := Lib.hid hul
        have hu0 : (0 : Int) ≤ u := Int.natCast_nonneg _
        have hu1 : (u : Int) < A.length := by omega
        cases f
        case true =>
          clear hul hu
          go_wp2_with fail
          go_quiet (fail)
          go_wp2_with fail
          exact ⟨⟨u + 1, true, by have := HUL.out; omega, by rw [WU.out.2]; rfl, rfl, fun _ _ _ _ _ => rfl, CW.out.drewN _⟩, by have := HUL.out; rw [WU.out.2]; simp [intOf]; omega⟩
        case false =>
          obtain ⟨x, hx⟩ : ∃ x, A[u]? = some x := ⟨_, List.getElem?_eq_getElem hul⟩
          have HX := Lib.hid hx
          have H8 := Lib.hid (H7.out.quiet CW.out)
          obtain ⟨g3, e3, f0, f1, f2⟩ := least_of_cells (show OwnW 3 wr 0 49 (.slice po A.length pc) (A.map pvSlot) from H8.out.get 3 rfl).rd hx
          subst e3
          obtain ⟨xo, xn, xc, hxv⟩ := (show Pool wr (A.map pvRow) from H8.out.get 4 rfl).ok x (List.mem_of_getElem? hx)
          have SX := Lib.hid (data_sl H8.out 4 rfl hx)
          have BX : Hid ((ints x.1.bs).length ≤ 140737488355328) := by
            show _ ≤ _
            rw [ints_length, (EA.out x (List.mem_of_getElem? hx)).2.2.1]
            decide
          clear hul hx hu
          obtain ⟨⟨xm, xr, xb⟩, xv⟩ := x
          dsimp only at f0 f1 f2 hxv SX BX
          subst hxv
          have SY8 : Hid (∀ w', Chg [] wr w' → Sl w' (.slice yo yn yc) (ints yb)) := fun w' c => (SY.out.chgNil CW.out).chgNil c
          have SX8 : Hid (∀ w', Chg [] wr w' → Sl w' (.slice xo xn xc) (ints xb)) := fun w' c => SX.out.chgNil c
          have KK : Hid (∀ w', Chg [] wr w' → (w'.cell? ⟨g, t * 3, none⟩ = some (.int .i64 (ym : Int)) ∧ w'.cell? ⟨g, t * 3 + 1, none⟩ = some (.int .i64 (yr : Int)) ∧ w'.cell? ⟨g, t * 3 + 2, none⟩ = some (.slice yo yn yc)) ∧ w'.cell? ⟨g3, u * 3, none⟩ = some (.int .i64 (xm : Int)) ∧ w'.cell? ⟨g3, u * 3 + 1, none⟩ = some (.int .i64 (xr : Int)) ∧ w'.cell? ⟨g3, u * 3 + 2, none⟩ = some (.slice xo xn xc)) := fun w' c => by
            obtain ⟨_, e4, h0, h1, h2⟩ := least_of_cells (show OwnW 3 w' 0 49 (.slice (some ⟨g, 0, none⟩) B.length bc) (B.map pvSlot) from by rw [LB.out]; exact (H8.out.quiet c).get 1 rfl).rd HY.out
            obtain rfl := (show g = _ by simpa using e4)
            obtain ⟨_, e5, h3, h4, h5⟩ := least_of_cells (show OwnW 3 w' 0 49 (.slice (some ⟨g3, 0, none⟩) A.length pc) (A.map pvSlot) from (H8.out.quiet c).get 3 rfl).rd HX.out
            obtain rfl := (show g3 = _ by simpa using e5)
            exact ⟨⟨h0, h1, h2⟩, h3, h4, h5⟩
          have k0 := KK.out wr (Chg.refl _ _)
          have C0 : Hid (Chg [] wr wr.drew) := (Chg.refl _ _).drewN 1
          have A1 : Hid (Pts ((wr.drew.alloc (.cells #[.int .i64 (ym : Int), .int .i64 (yr : Int), .slice yo yn yc] 49)).alloc (.cells #[.int .i64 (xm : Int), .int .i64 (xr : Int), .slice xo xn xc] 49)) (.slice (some ⟨wr.heap.size, 0, none⟩) 1 1) [⟨(ym : Int), (yr : Int), .slice yo yn yc, ints yb⟩]) := (Pts.one wr.drew ⟨(ym : Int), (yr : Int), .slice yo yn yc, ints yb⟩ _ (SY8.out _ C0.out) BY.out).chg ((Chg.refl _ _).alloc _)
          have A2 : Hid (Pts ((wr.drew.alloc (.cells #[.int .i64 (ym : Int), .int .i64 (yr : Int), .slice yo yn yc] 49)).alloc (.cells #[.int .i64 (xm : Int), .int .i64 (xr : Int), .slice xo xn xc] 49)) (.slice (some ⟨wr.heap.size + 1, 0, none⟩) 1 1) [⟨(xm : Int), (xr : Int), .slice xo xn xc, ints xb⟩]) := by
            have h := Pts.one (wr.drew.alloc (.cells #[.int .i64 (ym : Int), .int .i64 (yr : Int), .slice yo yn yc] 49)) ⟨(xm : Int), (xr : Int), .slice xo xn xc, ints xb⟩ 49 (SX8.out _ (C0.out.alloc _)) BX.out
            rw [show (wr.drew.alloc (.cells #[.int .i64 (ym : Int), .int .i64 (yr : Int), .slice yo yn yc] 49)).heap.size = wr.heap.size + 1 by simp] at h
            exact h
          have B1 : Hid (Pts ((wr.drew.alloc (.cells #[.int .i64 (xm : Int), .int .i64 (xr : Int), .slice xo xn xc] 49)).alloc (.cells #[.int .i64 (ym : Int), .int .i64 (yr : Int), .slice yo yn yc] 49)) (.slice (some ⟨wr.heap.size, 0, none⟩) 1 1) [⟨(xm : Int), (xr : Int), .slice xo xn xc, ints xb⟩]) := (Pts.one wr.drew ⟨(xm : Int), (xr : Int), .slice xo xn xc, ints xb⟩ _ (SX8.out _ C0.out) BX.out).chg ((Chg.refl _ _).alloc _)
          have B2 : Hid (Pts ((wr.drew.alloc (.cells #[.int .i64 (xm : Int), .int .i64 (xr : Int), .slice xo xn xc] 49)).alloc (.cells #[.int .i64 (ym : Int), .int .i64 (yr : Int), .slice yo yn yc] 49)) (.slice (some ⟨wr.heap.size + 1, 0, none⟩) 1 1) [⟨(ym : Int), (yr : Int), .slice yo yn yc, ints yb⟩]) := by
            have h := Pts.one (wr.drew.alloc (.cells #[.int .i64 (xm : Int), .int .i64 (xr : Int), .slice xo xn xc] 49)) ⟨(ym : Int), (yr : Int), .slice yo yn yc, ints yb⟩ 49 (SY8.out _ (C0.out.alloc _)) BY.out
            rw [show (wr.drew.alloc (.cells #[.int .i64 (xm : Int), .int .i64 (xr : Int), .slice xo xn xc] 49)).heap.size = wr.heap.size + 1 by simp] at h
            exact h
          have CA : Hid (Chg [] wr ((wr.drew.alloc (.cells #[.int .i64 (ym : Int), .int .i64 (yr : Int), .slice yo yn yc] 49)).alloc (.cells #[.int .i64 (xm : Int), .int .i64 (xr : Int), .slice xo xn xc] 49))) := (C0.out.alloc _).alloc _
          have CB : Hid (Chg [] wr ((wr.drew.alloc (.cells #[.int .i64 (xm : Int), .int .i64 (xr : Int), .slice xo xn xc] 49)).alloc (.cells #[.int .i64 (ym : Int), .int .i64 (yr : Int), .slice yo yn yc] 49))) := (C0.out.alloc _).alloc _
          go_upto_region 33 with fail
          go_region_held3 (fun w' : World => (w'.cell? ⟨g, t * 3, none⟩ = some (.int .i64 (ym : Int)) ∧ w'.cell? ⟨g, t * 3 + 1, none⟩ = some (.int .i64 (yr : Int)) ∧ w'.cell? ⟨g, t * 3 + 2, none⟩ = some (.slice yo yn yc)) ∧ w'.cell? ⟨g3, u * 3, none⟩ = some (.int .i64 (xm : Int)) ∧ w'.cell? ⟨g3, u * 3 + 1, none⟩ = some (.int .i64 (xr : Int)) ∧ w'.cell? ⟨g3, u * 3 + 2, none⟩ = some (.slice xo xn xc)) (first | exact k0 | exact KK.out _ C0.out | exact KK.out _ (C0.out.alloc _) | exact KK.out _ CA.out | exact KK.out _ CB.out | exact KK.out _ CZ.out) (first
            | (go_at_call 13; refine (same_one (by first | exact A1.out | exact B2.out) (by first | exact A2.out | exact B1.out)).mono ?_; rintro e9 w9 ⟨b, rfl, hb, C9⟩; have CZ : Hid (Chg [] wr w9) := (by first | exact CA.out.trans C9.out | exact CB.out.trans C9.out)))
          all_goals
            have FF2 : Hid (∀ (j : Nat) (z : Pv), j < u + 1 → A[j]? = some z → z.1 = ⟨ym, yr, yb⟩ → b = true) := fun j z hj hz e => by
              by_cases c : j = u
              · subst c
                rw [HX.out] at hz
                obtain rfl := Option.some.inj hz
                dsimp only at e
                obtain ⟨rfl, rfl, rfl⟩ : xm = ym ∧ xr = yr ∧ xb = yb := by simpa using e
                exact hb.out ⟨rfl, rfl, rfl⟩
              · exact absurd (FF.out j z (by omega) hz e) (by simp)
            clear KK k0 C0 A1 A2 B1 B2 CA CB SY8 SX8 SX BX H8
            go_wp2_with fail
            exact ⟨⟨u + 1, b, by have := HUL.out; omega, by rw [WU.out.2]; rfl, rfl, FF2, CW.out.trans CZ.out⟩, by have := HUL.out; rw [WU.out.2]; simp [intOf]; omega⟩
    case rest =>
      obtain ⟨rfl, CW⟩ := hcut
      rename_i KK aKK
      refine aKK _ _ ?_
      have H8 := Lib.hid (H7.out.quiet CW.out)
      have RN : Hid (∀ b, decide (yr < row) = b → b = rnd row (dOf B) (t + 1)) := fun b hb => by
        rw [← hb]
        simp [rnd, DY.out]
      obtain ⟨_, e4, y0, y1, -⟩ := least_of_cells (show OwnW 3 wc 0 49 (.slice (some ⟨g, 0, none⟩) B.length bc) (B.map pvSlot) from by rw [LB.out]; exact H8.out.get 1 rfl).rd HY.out
      obtain rfl := (show g = _ by simpa using e4)
      dsimp only at y0 y1
      have HT1 : Hid (t + 1 ≤ A.length) := HTL.out
      have MZ : Hid (A.length - (t + 1) < A.length - t) := by show _ < _; have := HTL.out; omega
      clear INA d0 d1 d2 e4
      by_cases hz : t = 0
      · subst hz
        obtain rfl : q = false := RQ.out
        by_cases hr : yr < row
        · have RV : Hid (decide (yr < row) = true) := decide_eq_true hr
          refine tail_a (by kernel_rfl) wc _ g A.length bc row ym yr _ _ _ _ _ _ _ _ _ _ _ _ _ _ _ _ _ _ _ _ _ _ _ _ _ _ _ _ _ _ _ _ _ _ _ _ _ _ _ _ _ _ _ _ _ _ _ _ _ _ _ _ _ _ _ _ _ _ _ _ _ _ _ _ _ _ _ _ _ _ _ _ _ _ _ _ _ _ _ _ _ _ _ _ _ _ _ _ _ _ _ _ _ _ _ _ _ _ _ _ _ _ _ _ _ _ _ _ _ _ _ _ _ _ _ _ _ _ _ _ _ _ _ _ _ _ _ _ _ _ _ _ _ _ _ _ _ _ _ _ _ _ _ _ _ _ _ _ _ _ _ _ _ _ _ _ _ _ _ _ _ _ _ _ _ _ _ _ _ _ _ _ _ _ _ _ _ _ _ _ _ _ _ _ _ _ _ _ _ _ _ _ _ _ _ _ _ _ _ _ _ _ _ _ _ _ _ _ _ _ _ _ _ _ _ _ _ _ _ _ _ _ _ _ _ _ _ _ _ _ _ _ _ _ _ _ _ _ _ _ _ _ _ _ _ _ _ _ _ _ _ _ _ _ _ _ _ _ _ _ _ _ _ _ _ _ _ _ _ _ _ (by have := HTL.out; omega) y0 y1 (by omega) (by omega) ?_
          intros
          go_wp2_with fail
          exact ⟨⟨1, true, HT1.out, rfl, rfl, RN.out _ RV.out, (CH.out.trans CW.out).drewN _⟩, MZ.out⟩
        · have RV : Hid (decide (yr < row) = false) := decide_eq_false hr
          refine tail_b (by kernel_rfl) wc _ g A.length bc row ym yr _ _ _ _ _ _ _ _ _ _ _ _ _ _ _ _ _ _ _ _ _ _ _ _ _ _ _ _ _ _ _ _ _ _ _ _ _ _ _ _ _ _ _ _ _ _ _ _ _ _ _ _ _ _ _ _ _ _ _ _ _ _ _ _ _ _ _ _ _ _ _ _ _ _ _ _ _ _ _ _ _ _ _ _ _ _ _ _ _ _ _ _ _ _ _ _ _ _ _ _ _ _ _ _ _ _ _ _ _ _ _ _ _ _ _ _ _ _ _ _ _ _ _ _ _ _ _ _ _ _ _ _ _ _ _ _ _ _ _ _ _ _ _ _ _ _ _ _ _ _ _ _ _ _ _ _ _ _ _ _ _ _ _ _ _ _ _ _ _ _ _ _ _ _ _ _ _ _ _ _ _ _ _ _ _ _ _ _ _ _ _ _ _ _ _ _ _ _ _ _ _ _ _ _ _ _ _ _ _ _ _ _ _ _ _ _ _ _ _ _ _ _ _ _ _ _ _ _ _ _ _ _ _ _ _ _ _ _ _ _ _ _ _ _ _ _ _ _ _ _ _ _ _ _ _ _ _ _ _ _ _ _ _ _ _ _ _ _ _ _ _ (by have := HTL.out; omega) y0 y1 (by omega) (by omega) ?_
          intros
          go_wp2_with fail
          exact ⟨⟨1, false, HT1.out, rfl, rfl, RN.out _ RV.out, (CH.out.trans CW.out).drewN _⟩, MZ.out⟩
      · obtain ⟨s, hs⟩ : ∃ s, t = s + 1 := ⟨t - 1, by omega⟩
        obtain ⟨x, hx⟩ : ∃ x, B[s]? = some x := ⟨_, List.getElem?_eq_getElem (by rw [LB.out]; have := HTL.out; omega)⟩
        have DX : (dOf B)[s]? = some x.1 := by unfold dOf; rw [List.getElem?_map, hx]; rfl
        have TN : Lf.Turn row x.1 ⟨ym, yr, yb⟩ := by
          have h1 := DX
          have h2 := DY.out
          rw [HB.out] at h1 h2
          rw [hs] at h2
          exact Lf.way_pair SR.out h1 h2
        have RX : q = decide (x.1.r < row) := by
          rw [RQ.out, hs]
          simp [rnd, DX]
        obtain ⟨_, e5, x0, x1, -⟩ := least_of_cells (show OwnW 3 wc 0 49 (.slice (some ⟨g, 0, none⟩) B.length bc) (B.map pvSlot) from by rw [LB.out]; exact H8.out.get 1 rfl).rd hx
        obtain rfl := (show g = _ by simpa using e5)
        obtain ⟨⟨xm, xr, xb⟩, xv⟩ := x
        dsimp only at x0 x1 TN RX
        have z1 : (t : Int) - 1 = (s : Int) := by omega
        have z2 : 0 < t := by omega
        have z3 : ((t : Int) == 0) = false := by simp; omega
        have s0 : (0 : Int) ≤ (s : Int) := Int.natCast_nonneg _
        have s1 : (s : Int) < (A.length : Int) := by have := HTL.out; omega
        have r1 : -1000000000 ≤ (s : Int) := by omega
        have r2 : (s : Int) ≤ 1000000000 := by have := LA.out; omega
        have t0 : (0 : Int) ≤ (t : Int) := Int.natCast_nonneg _
        have t1 : (t : Int) < (A.length : Int) := by have := HTL.out; omega
        clear hx DX e5 hz
        unfold Lf.Turn Lf.lt at TN
        dsimp only at TN
        by_cases h1 : xr < row
        · by_cases h2 : xr < yr
          · obtain rfl : q = true := by rw [RX]; exact decide_eq_true (by omega)
            have RV : Hid (decide (yr < row) = true) := decide_eq_true (by omega)
            have f1 : ¬ (row : Int) ≤ (yr : Int) := by omega
            have f2 : (yr : Int) < (row : Int) := by omega
            have k3 : decide ((yr : Int) < (xr : Int)) = false := decide_eq_false (by omega)
            have k4 : decide (yr < xr) = false := decide_eq_false (by omega)
            have k1 : ((yr : Int) == (xr : Int)) = false := by simp; omega
            obtain ⟨q1, q2⟩ := wrap_in r1 r2
            refine tail_d1 (by kernel_rfl) wc _ g A.length bc t row ym yr s xm xr _ _ _ _ _ _ _ _ _ _ _ _ _ _ _ _ _ _ _ _ _ _ _ _ _ _ _ _ _ _ _ _ _ _ _ _ _ _ _ _ _ _ _ _ _ _ _ _ _ _ _ _ _ _ _ _ _ _ _ _ _ _ _ _ _ _ _ _ _ _ _ _ _ _ _ _ _ _ _ _ _ _ _ _ _ _ _ _ _ _ _ _ _ _ _ _ _ _ _ _ _ _ _ _ _ _ _ _ _ _ _ _ _ _ _ _ _ _ _ _ _ _ _ _ _ _ _ _ _ _ _ _ _ _ _ _ _ _ _ _ _ _ _ _ _ _ _ _ _ _ _ _ _ _ _ _ _ _ _ _ _ _ _ _ _ _ _ _ _ _ _ _ _ _ _ _ _ _ _ _ _ _ _ _ _ _ _ _ _ _ _ _ _ _ _ _ _ _ _ _ _ _ _ _ _ _ _ _ _ _ _ _ _ _ _ _ _ _ _ _ _ _ _ _ _ _ _ _ _ _ _ _ _ _ _ _ _ _ _ _ _ _ _ _ _ _ _ _ _ _ _ _ _ _ _ _ _ _ _ _ _ _ _ _ _ _ _ _ _ _ _ t0 t1 y0 y1 z1 z2 z3 s0 s1 q1 q2 x0 x1 f1 f2 k3 k4 k1 ?_
            clear q1 q2 TN RX r1 r2 z1 z2 z3 s0 s1 t0 t1 hs
            intros
            go_wp2_with fail
            exact ⟨⟨t + 1, true, HT1.out, by rw [WT.out.2]; rfl, rfl, RN.out _ RV.out, (CH.out.trans CW.out).drewN _⟩, by rw [WT.out.2]; exact MZ.out⟩
          · obtain rfl : q = true := by rw [RX]; exact decide_eq_true (by omega)
            have RV : Hid (decide (yr < row) = true) := decide_eq_true (by omega)
            have f1 : ¬ (row : Int) ≤ (yr : Int) := by omega
            have f2 : (yr : Int) < (row : Int) := by omega
            have k3 : decide ((yr : Int) < (xr : Int)) = false := decide_eq_false (by omega)
            have k4 : decide (yr < xr) = false := decide_eq_false (by omega)
            have k1 : ((yr : Int) == (xr : Int)) = true := by simp; omega
            have k5 : ¬ (ym : Int) < (xm : Int) := by omega
            have k2 : ((ym : Int) == (xm : Int)) = false := by simp; omega
            obtain ⟨q1, q2⟩ := wrap_in r1 r2
            refine tail_d2 (by kernel_rfl) wc _ g A.length bc t row ym yr s xm xr _ _ _ _ _ _ _ _ _ _ _ _ _ _ _ _ _ _ _ _ _ _ _ _ _ _ _ _ _ _ _ _ _ _ _ _ _ _ _ _ _ _ _ _ _ _ _ _ _ _ _ _ _ _ _ _ _ _ _ _ _ _ _ _ _ _ _ _ _ _ _ _ _ _ _ _ _ _ _ _ _ _ _ _ _ _ _ _ _ _ _ _ _ _ _ _ _ _ _ _ _ _ _ _ _ _ _ _ _ _ _ _ _ _ _ _ _ _ _ _ _ _ _ _ _ _ _ _ _ _ _ _ _ _ _ _ _ _ _ _ _ _ _ _ _ _ _ _ _ _ _ _ _ _ _ _ _ _ _ _ _ _ _ _ _ _ _ _ _ _ _ _ _ _ _ _ _ _ _ _ _ _ _ _ _ _ _ _ _ _ _ _ _ _ _ _ _ _ _ _ _ _ _ _ _ _ _ _ _ _ _ _ _ _ _ _ _ _ _ _ _ _ _ _ _ _ _ _ _ _ _ _ _ _ _ _ _ _ _ _ _ _ _ _ _ _ _ _ _ _ _ _ _ _ _ _ _ _ _ _ _ _ _ _ _ _ _ _ _ _ _ t0 t1 y0 y1 z1 z2 z3 s0 s1 q1 q2 x0 x1 f1 f2 k3 k4 k1 k5 k2 ?_
            clear q1 q2 TN RX r1 r2 z1 z2 z3 s0 s1 t0 t1 hs
            intros
            go_wp2_with fail
            exact ⟨⟨t + 1, true, HT1.out, by rw [WT.out.2]; rfl, rfl, RN.out _ RV.out, (CH.out.trans CW.out).drewN _⟩, by rw [WT.out.2]; exact MZ.out⟩
        · by_cases h3 : yr < row
          · obtain rfl : q = false := by rw [RX]; exact decide_eq_false (by omega)
            have RV : Hid (decide (yr < row) = true) := decide_eq_true (by omega)
            have f1 : ¬ (row : Int) ≤ (yr : Int) := by omega
            have f2 : (yr : Int) < (row : Int) := by omega
            have k3 : (yr : Int) < (xr : Int) := by omega
            have k1 : ((yr : Int) == (xr : Int)) = false := by simp; omega
            obtain ⟨q1, q2⟩ := wrap_in r1 r2
            refine tail_e (by kernel_rfl) wc _ g A.length bc t row ym yr s xm xr _ _ _ _ _ _ _ _ _ _ _ _ _ _ _ _ _ _ _ _ _ _ _ _ _ _ _ _ _ _ _ _ _ _ _ _ _ _ _ _ _ _ _ _ _ _ _ _ _ _ _ _ _ _ _ _ _ _ _ _ _ _ _ _ _ _ _ _ _ _ _ _ _ _ _ _ _ _ _ _ _ _ _ _ _ _ _ _ _ _ _ _ _ _ _ _ _ _ _ _ _ _ _ _ _ _ _ _ _ _ _ _ _ _ _ _ _ _ _ _ _ _ _ _ _ _ _ _ _ _ _ _ _ _ _ _ _ _ _ _ _ _ _ _ _ _ _ _ _ _ _ _ _ _ _ _ _ _ _ _ _ _ _ _ _ _ _ _ _ _ _ _ _ _ _ _ _ _ _ _ _ _ _ _ _ _ _ _ _ _ _ _ _ _ _ _ _ _ _ _ _ _ _ _ _ _ _ _ _ _ _ _ _ _ _ _ _ _ _ _ _ _ _ _ _ _ _ _ _ _ _ _ _ _ _ _ _ _ _ _ _ _ _ _ _ _ _ _ _ _ _ _ _ _ _ _ _ _ _ _ _ _ _ _ _ _ _ _ _ _ _ t0 t1 y0 y1 z1 z2 z3 s0 s1 q1 q2 x0 x1 f1 f2 k3 k1 ?_
            clear q1 q2 TN RX r1 r2 z1 z2 z3 s0 s1 t0 t1 hs
            intros
            go_wp2_with fail
            exact ⟨⟨t + 1, true, HT1.out, by rw [WT.out.2]; rfl, rfl, RN.out _ RV.out, (CH.out.trans CW.out).drewN _⟩, by rw [WT.out.2]; exact MZ.out⟩
          · by_cases h2 : xr < yr
            · obtain rfl : q = false := by rw [RX]; exact decide_eq_false (by omega)
              have RV : Hid (decide (yr < row) = false) := decide_eq_false (by omega)
              have f1 : (row : Int) ≤ (yr : Int) := by omega
              have f2 : ¬ (yr : Int) < (row : Int) := by omega
              have k3 : decide ((yr : Int) < (xr : Int)) = false := decide_eq_false (by omega)
              have k4 : decide (yr < xr) = false := decide_eq_false (by omega)
              have k1 : ((yr : Int) == (xr : Int)) = false := by simp; omega
              obtain ⟨q1, q2⟩ := wrap_in r1 r2
              refine tail_c1 (by kernel_rfl) wc _ g A.length bc t row ym yr s xm xr _ _ _ _ _ _ _ _ _ _ _ _ _ _ _ _ _ _ _ _ _ _ _ _ _ _ _ _ _ _ _ _ _ _ _ _ _ _ _ _ _ _ _ _ _ _ _ _ _ _ _ _ _ _ _ _ _ _ _ _ _ _ _ _ _ _ _ _ _ _ _ _ _ _ _ _ _ _ _ _ _ _ _ _ _ _ _ _ _ _ _ _ _ _ _ _ _ _ _ _ _ _ _ _ _ _ _ _ _ _ _ _ _ _ _ _ _ _ _ _ _ _ _ _ _ _ _ _ _ _ _ _ _ _ _ _ _ _ _ _ _ _ _ _ _ _ _ _ _ _ _ _ _ _ _ _ _ _ _ _ _ _ _ _ _ _ _ _ _ _ _ _ _ _ _ _ _ _ _ _ _ _ _ _ _ _ _ _ _ _ _ _ _ _ _ _ _ _ _ _ _ _ _ _ _ _ _ _ _ _ _ _ _ _ _ _ _ _ _ _ _ _ _ _ _ _ _ _ _ _ _ _ _ _ _ _ _ _ _ _ _ _ _ _ _ _ _ _ _ _ _ _ _ _ _ _ _ _ _ _ _ _ _ _ _ _ _ _ _ _ _ t0 t1 y0 y1 z1 z2 z3 s0 s1 q1 q2 x0 x1 f1 f2 k3 k4 k1 ?_
              clear q1 q2 TN RX r1 r2 z1 z2 z3 s0 s1 t0 t1 hs
              intros
              go_wp2_with fail
              exact ⟨⟨t + 1, false, HT1.out, by rw [WT.out.2]; rfl, rfl, RN.out _ RV.out, (CH.out.trans CW.out).drewN _⟩, by rw [WT.out.2]; exact MZ.out⟩
            · obtain rfl : q = false := by rw [RX]; exact decide_eq_false (by omega)
              have RV : Hid (decide (yr < row) = false) := decide_eq_false (by omega)
              have f1 : (row : Int) ≤ (yr : Int) := by omega
              have f2 : ¬ (yr : Int) < (row : Int) := by omega
              have k3 : decide ((yr : Int) < (xr : Int)) = false := decide_eq_false (by omega)
              have k4 : decide (yr < xr) = false := decide_eq_false (by omega)
              have k1 : ((yr : Int) == (xr : Int)) = true := by simp; omega
              have k5 : ¬ (ym : Int) < (xm : Int) := by omega
              have k2 : ((ym : Int) == (xm : Int)) = false := by simp; omega
              obtain ⟨q1, q2⟩ := wrap_in r1 r2
              refine tail_c2 (by kernel_rfl) wc _ g A.length bc t row ym yr s xm xr _ _ _ _ _ _ _ _ _ _ _ _ _ _ _ _ _ _ _ _ _ _ _ _ _ _ _ _ _ _ _ _ _ _ _ _ _ _ _ _ _ _ _ _ _ _ _ _ _ _ _ _ _ _ _ _ _ _ _ _ _ _ _ _ _ _ _ _ _ _ _ _ _ _ _ _ _ _ _ _ _ _ _ _ _ _ _ _ _ _ _ _ _ _ _ _ _ _ _ _ _ _ _ _ _ _ _ _ _ _ _ _ _ _ _ _ _ _ _ _ _ _ _ _ _ _ _ _ _ _ _ _ _ _ _ _ _ _ _ _ _ _ _ _ _ _ _ _ _ _ _ _ _ _ _ _ _ _ _ _ _ _ _ _ _ _ _ _ _ _ _ _ _ _ _ _ _ _ _ _ _ _ _ _ _ _ _ _ _ _ _ _ _ _ _ _ _ _ _ _ _ _ _ _ _ _ _ _ _ _ _ _ _ _ _ _ _ _ _ _ _ _ _ _ _ _ _ _ _ _ _ _ _ _ _ _ _ _ _ _ _ _ _ _ _ _ _ _ _ _ _ _ _ _ _ _ _ _ _ _ _ _ _ _ _ _ _ _ _ _ _ t0 t1 y0 y1 z1 z2 z3 s0 s1 q1 q2 x0 x1 f1 f2 k3 k4 k1 k5 k2 ?_
              clear q1 q2 TN RX r1 r2 z1 z2 z3 s0 s1 t0 t1 hs
              intros
              go_wp2_with fail
              exact ⟨⟨t + 1, false, HT1.out, by rw [WT.out.2]; rfl, rfl, RN.out _ RV.out, (CH.out.trans CW.out).drewN _⟩, by rw [WT.out.2]; exact MZ.out⟩

end Go.Proofs.Ytihmegpcbpdipaa
