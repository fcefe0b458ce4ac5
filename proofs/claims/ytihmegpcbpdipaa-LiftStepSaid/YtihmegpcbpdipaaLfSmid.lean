/-
  LiftStep's round, from its first Put on. By an AI agent. Printed by gen_smid.py.
-/
import Derived.Test.YtihmegpcbpdipaaLfStake
namespace Go.Proofs.Ytihmegpcbpdipaa
open Go.RowKit

noncomputable def stepMid : Code := (Try.f6.body.bind (codeFrom 10)).getD .skip

set_option maxHeartbeats 8000000 in
set_option maxRecDepth 1000000 in
theorem step_mid {co : Code} (hco : stepMid = co) (C : LiftCons) (W w : World) (Q : Exit → Act → World → Prop) (k M R row P P2 X g pc bc : Nat) (po bo : Option Addr) (bs : List Bool) (A : List Pv) (S S2 : List Pd) (G G2 : List Nat) (l0 l2 l3 l4 l6 l8 l12 l13 l14 l15 l16 l17 l18 l19 l20 l21 l22 l23 l24 l25 l26 l27 l28 l29 l30 l31 l32 l33 l34 l35 l36 l37 l38 l39 l40 l41 l42 l43 l44 l45 l46 l47 l48 l49 l50 l51 l52 l53 l54 l55 l56 l57 l58 l59 l60 l61 l62 l63 l64 l65 l66 l67 l68 l69 l70 l71 l72 l73 l74 l75 l76 l77 l78 l79 l80 l81 l82 l83 l84 l85 l86 l87 l88 l89 l90 l91 l92 l93 l94 l95 l96 l97 l98 l99 l100 l101 l102 l103 l104 l105 l106 l107 l108 l109 l110 l111 l112 l113 l114 l115 l116 l117 l118 l119 l120 l121 l122 l123 l124 l125 l126 l127 l128 l129 l130 l131 l132 l133 l134 l135 l136 l137 l138 l139 l140 l141 l142 l143 l144 l145 l146 l147 l148 l149 l150 l151 l152 l153 l154 l155 l156 l157 l158 l159 l160 l161 l162 l163 l164 l165 l166 l167 l168 l169 l170 l171 l172 l173 l174 l175 l176 l177 l178 l179 l180 l181 l182 l183 l184 l185 l186 l187 l188 l189 l190 l191 l192 l193 l194 l195 l196 l197 l198 l199 l200 l201 l202 l203 l204 l205 l206 l207 l208 l209 l210 l211 l212 l213 l214 l215 l216 l217 l218 l219 l220 l221 l222 l223 l224 l225 l226 l227 l228 l229 l230 l231 l232 l233 l234 l235 l236 l237 l238 l239 l240 l241 l242 l243 l244 l245 l246 l247 l248 l249 l250 l251 l252 l253 l254 l255 l256 l257 l258 l259 l260 l261 : Value)
    (HM : Hid (M ≤ 15)) (HR : Hid (R ≤ 4095)) (HK : Hid (k < 200)) (MK : Hid (Mk A k)) (ME : Hid (∀ x, x ∈ dOf A ↔ x ∈ S)) (SR : Hid (Lf.Srt S)) (SR2 : Hid (Lf.Srt S2)) (FE2 : Hid (S2.length ≤ k)) (BS : Hid (∀ w', Chg [] W w' → RdV w' (.slice bo bs.length bc) (bs.map Value.bool)))
    (H4 : Hid (Side W w [blkT X 49 [.int .i64 (M : Int), .int .i64 (R : Int), .slice (some ⟨g, 0, none⟩) 128 128], ownT 5 (.slice (some ⟨g, 0, none⟩) 128 128) (ub (full k)), C.T P S row G, C.T P2 S2 7 G2, listT (.slice po A.length pc) A, dataT A]))
    (hend : ∀ (e : Exit) (A' : List Pv) (S' S2' : List Pd) (row' : Nat) (G' G2' : List Nat) (po' : Option Addr) (pc' : Nat) (w' : World) (m4 m12 m13 m14 m15 m16 m17 m18 m19 m20 m83 m84 m85 m86 m87 m88 m89 m90 m91 m92 m93 m94 m95 m96 m97 m98 m99 m100 m101 m102 m103 m104 m105 m106 m107 m108 m109 m110 m111 m112 m113 m114 m115 m116 m117 m118 m119 m120 m121 m122 m123 m124 m125 m126 m127 m128 m129 m130 m131 m132 m133 m134 m135 m136 m137 m138 m139 m140 m141 m142 m143 m144 m145 m146 m147 m148 m149 m150 m151 m152 m153 m154 m155 m156 m157 m158 m159 m160 m161 m162 m163 m164 m165 m166 m167 m168 m169 m170 m171 m172 m173 m174 m175 m176 m177 m178 m179 m180 m181 m182 m183 m184 m185 m186 m187 m188 m189 m190 m191 m192 m193 m194 m195 m196 m197 m198 m199 m200 m201 m202 m203 m204 m205 m206 m207 m208 m209 m210 m211 m212 m213 m214 m215 m216 m217 m218 m219 m220 m221 m222 m223 m224 m225 m226 m227 m228 m229 m230 m231 m232 m233 m234 m235 m236 m237 m238 m239 m240 m241 m242 m243 m244 m245 m246 m247 m248 m249 m250 m251 m252 m253 m254 m255 m256 m257 m258 m259 m260 m261 : Value), Hid (e = .normal ∨ e = .exit 1) → Hid (Mk A' (k + 1)) → Hid (∀ x, x ∈ dOf A' ↔ x ∈ S') → Hid (Lf.Srt S') → Hid (Lf.Srt S2') → Hid (S2'.length ≤ k + 1) → Hid (Side W w' [C.T P S' row' G', C.T P2 S2' 7 G2', listT (.slice po' A'.length pc') A', dataT A']) → Q e ⟨#[l0, .slice bo bs.length bc, l2, l3, m4, .pointer (some ⟨P, 0, none⟩), l6, .pointer (some ⟨P2, 0, none⟩), l8, .slice po' A'.length pc', .int .i64 (k : Int), .pointer (some ⟨X, 0, none⟩), m12, m13, m14, m15, m16, m17, m18, m19, m20, l21, l22, l23, l24, l25, l26, l27, l28, l29, l30, l31, l32, l33, l34, l35, l36, l37, l38, l39, l40, l41, l42, l43, l44, l45, l46, l47, l48, l49, l50, l51, l52, l53, l54, l55, l56, l57, l58, l59, l60, l61, l62, l63, l64, l65, l66, l67, l68, l69, l70, l71, l72, l73, l74, l75, l76, l77, l78, l79, l80, l81, l82, m83, m84, m85, m86, m87, m88, m89, m90, m91, m92, m93, m94, m95, m96, m97, m98, m99, m100, m101, m102, m103, m104, m105, m106, m107, m108, m109, m110, m111, m112, m113, m114, m115, m116, m117, m118, m119, m120, m121, m122, m123, m124, m125, m126, m127, m128, m129, m130, m131, m132, m133, m134, m135, m136, m137, m138, m139, m140, m141, m142, m143, m144, m145, m146, m147, m148, m149, m150, m151, m152, m153, m154, m155, m156, m157, m158, m159, m160, m161, m162, m163, m164, m165, m166, m167, m168, m169, m170, m171, m172, m173, m174, m175, m176, m177, m178, m179, m180, m181, m182, m183, m184, m185, m186, m187, m188, m189, m190, m191, m192, m193, m194, m195, m196, m197, m198, m199, m200, m201, m202, m203, m204, m205, m206, m207, m208, m209, m210, m211, m212, m213, m214, m215, m216, m217, m218, m219, m220, m221, m222, m223, m224, m225, m226, m227, m228, m229, m230, m231, m232, m233, m234, m235, m236, m237, m238, m239, m240, m241, m242, m243, m244, m245, m246, m247, m248, m249, m250, m251, m252, m253, m254, m255, m256, m257, m258, m259, m260, m261], []⟩ w') :
    Code.wp Try.prog co Q ⟨#[l0, .slice bo bs.length bc, l2, l3, l4, .pointer (some ⟨P, 0, none⟩), l6, .pointer (some ⟨P2, 0, none⟩), l8, .slice po A.length pc, .int .i64 (k : Int), .pointer (some ⟨X, 0, none⟩), l12, l13, l14, l15, l16, l17, l18, l19, l20, l21, l22, l23, l24, l25, l26, l27, l28, l29, l30, l31, l32, l33, l34, l35, l36, l37, l38, l39, l40, l41, l42, l43, l44, l45, l46, l47, l48, l49, l50, l51, l52, l53, l54, l55, l56, l57, l58, l59, l60, l61, l62, l63, l64, l65, l66, l67, l68, l69, l70, l71, l72, l73, l74, l75, l76, l77, l78, l79, l80, l81, l82, l83, l84, l85, l86, l87, l88, l89, l90, l91, l92, l93, l94, l95, l96, l97, l98, l99, l100, l101, l102, l103, l104, l105, l106, l107, l108, l109, l110, l111, l112, l113, l114, l115, l116, l117, l118, l119, l120, l121, l122, l123, l124, l125, l126, l127, l128, l129, l130, l131, l132, l133, l134, l135, l136, l137, l138, l139, l140, l141, l142, l143, l144, l145, l146, l147, l148, l149, l150, l151, l152, l153, l154, l155, l156, l157, l158, l159, l160, l161, l162, l163, l164, l165, l166, l167, l168, l169, l170, l171, l172, l173, l174, l175, l176, l177, l178, l179, l180, l181, l182, l183, l184, l185, l186, l187, l188, l189, l190, l191, l192, l193, l194, l195, l196, l197, l198, l199, l200, l201, l202, l203, l204, l205, l206, l207, l208, l209, l210, l211, l212, l213, l214, l215, l216, l217, l218, l219, l220, l221, l222, l223, l224, l225, l226, l227, l228, l229, l230, l231, l232, l233, l234, l235, l236, l237, l238, l239, l240, l241, l242, l243, l244, l245, l246, l247, l248, l249, l250, l251, l252, l253, l254, l255, l256, l257, l258, l259, l260, l261], []⟩ w := by
  obtain ⟨i0, hi, hz0, hz1, hz2⟩ := info_parts info_patch
  replace hi := Lib.hid hi
  replace hz0 := Lib.hid hz0
  replace hz1 := Lib.hid hz1
  replace hz2 := Lib.hid hz2
  replace hend := Lib.hid hend
  subst hco
  conv => arg 2; whnf
  have LS0 : S.length = A.length := by
    have h := Lf.Apart.len SR.out.apart MK.out.apart (fun x => (ME.out x).symm)
    rw [h]
    unfold dOf
    rw [List.length_map]
  have FW : Hid (Few S) := by show S.length ≤ 100000; have := MK.out.few; have := HK.out; omega
  have FW2 : Hid (Few S2) := by show S2.length ≤ 100000; have := FE2.out; have := HK.out; omega
  have BF : Hid (By (ints (full k))) := full_by k (by have := HK.out; omega)
  have BF9 : Hid (By (ints (full 9))) := full_by 9 (by omega)
  have LA : Hid (A.length ≤ 200) := by show _ ≤ _; have := MK.out.few; have := HK.out; omega
  have x0 := (H4.out.get 0 rfl : Blk _ _ _ _).cell (j := 0) rfl
  have x1 := (H4.out.get 0 rfl : Blk _ _ _ _).cell (j := 1) rfl
  have x2 := (H4.out.get 0 rfl : Blk _ _ _ _).cell (j := 2) rfl
  have ek : Int.tmod (k : Int) 4096 = (k : Int) := by
    rw [Int.tmod_eq_emod_of_nonneg (by omega)]
    have := HK.out
    omega
  have z0 : ¬ (4096 : Int) = 0 := by decide
  have PT := Lib.hid (C.put_ok W w _ P row S G ⟨M, R, full k⟩ (.slice (some ⟨g, 0, none⟩) 128 128) HM.out HR.out (full_len k) (H4.out.sl 1 rfl) BF.out (fun b hb hm => H4.out.offAt 1 2 rfl rfl (by decide) b (by simpa [ownT] using hb) hm) SR.out FW.out (H4.out.front 2))
  clear LS0
  go_wp2_with fail
  clear x0 x1 x2
  refine PT.out.mono ?_
  rintro e w5 ⟨rfl, G5, H5⟩
  clear PT H4
  go_wp2_with fail
  refine (patch_any 3 k 9 _).mono ?_
  rintro e w6 ⟨g2, rfl, O, D⟩
  have H6 := Lib.hid (H5.out.patch O.out D.out)
  have PT := Lib.hid (C.put_ok W w6 _ P2 7 S2 G2 ⟨3, k, full 9⟩ (.slice (some ⟨g2, 0, none⟩) 128 128) (by show 3 ≤ 15; decide) (by show k ≤ 4095; have := HK.out; omega) (full_len 9) (H6.out.sl 0 rfl) BF9.out (fun b hb hm => H6.out.offAt 0 4 rfl rfl (by decide) b (by simpa [ownT] using hb) hm) SR2.out FW2.out (H6.out.front 4))
  clear H5 O D
  go_wp2_with fail
  refine PT.out.mono ?_
  rintro e w7 ⟨rfl, G7, H7⟩
  clear PT H6 ek z0 BF9 FW2
  have H8 : Hid (Side W w7 [listT (.slice none 0 0) (kept ⟨M, R, full k⟩ A 0), C.T P (Lf.ins ⟨M, R, full k⟩ S) row G5, blkT X 49 [.int .i64 (M : Int), .int .i64 (R : Int), .slice (some ⟨g, 0, none⟩) 128 128], ownT 5 (.slice (some ⟨g, 0, none⟩) 128 128) (ub (full k)), listT (.slice po A.length pc) A, dataT A, C.T P2 (Lf.ins ⟨3, k, full 9⟩ S2) 7 G7]) := by
    have h1 : Side W w7 [C.T P2 (Lf.ins ⟨3, k, full 9⟩ S2) 7 G7, C.T P (Lf.ins ⟨M, R, full k⟩ S) row G5, blkT X 49 [.int .i64 (M : Int), .int .i64 (R : Int), .slice (some ⟨g, 0, none⟩) 128 128], ownT 5 (.slice (some ⟨g, 0, none⟩) 128 128) (ub (full k)), listT (.slice po A.length pc) A, dataT A] := H7.out.sub (List.Sublist.cons_cons _ (List.sublist_cons_self _ _))
    have h2 : Side W w7 (listT (.slice none 0 0) (kept ⟨M, R, full k⟩ A 0) :: _) := h1.add (Chg.refl _ _) (OwnW.nil 3 _ 0 _) (fun k hk => by simp [listT, wideT, Value.ownBlock] at hk)
    exact (((((h2.front 1).front 6).front 6).front 6).front 6).front 6 |>.front 6
  clear H7
  go_upto_block 2 with fail
  go_cut [12] from 91 to 121 (fun s12 wx => ∃ qo qc, s12 = .slice qo (kept ⟨M, R, full k⟩ A A.length).length qc ∧ Hid (Side W wx [listT s12 (kept ⟨M, R, full k⟩ A A.length), C.T P (Lf.ins ⟨M, R, full k⟩ S) row G5, blkT X 49 [.int .i64 (M : Int), .int .i64 (R : Int), .slice (some ⟨g, 0, none⟩) 128 128], ownT 5 (.slice (some ⟨g, 0, none⟩) 128 128) (ub (full k)), listT (.slice po A.length pc) A, dataT A, C.T P2 (Lf.ins ⟨3, k, full 9⟩ S2) 7 G7]))
  case first =>
    go_wp2_with fail
    go_loopw [12, 13] (fun q j wr => ∃ t : Nat, t ≤ A.length ∧ j = .int .i64 t ∧ Hid (Side W wr [listT q (kept ⟨M, R, full k⟩ A t), C.T P (Lf.ins ⟨M, R, full k⟩ S) row G5, blkT X 49 [.int .i64 (M : Int), .int .i64 (R : Int), .slice (some ⟨g, 0, none⟩) 128 128], ownT 5 (.slice (some ⟨g, 0, none⟩) 128 128) (ub (full k)), listT (.slice po A.length pc) A, dataT A, C.T P2 (Lf.ins ⟨3, k, full 9⟩ S2) 7 G7])) (fun _ j _ => A.length - (intOf j).toNat)
    case atStart => exact ⟨0, Nat.zero_le _, rfl, H8⟩
    case round =>
      obtain ⟨t, ht, rfl, H⟩ := hrel
      clear H8
      obtain ⟨qo, qc, hqv⟩ := (show OwnW 3 wr 0 49 u12 ((kept ⟨M, R, full k⟩ A t).map pvSlot) from H.out.get 0 rfl).slice
      rw [List.length_map] at hqv
      subst hqv
      have KL := Lib.hid (kept_len ⟨M, R, full k⟩ A t)
      have WT := Lib.hid (wrap_in (z := (t : Int) + 1) (by have := LA.out; omega) (by have := LA.out; omega))
      by_cases htl : t < A.length
      case neg =>
        have hge : ¬ (t : Int) < A.length := by omega
        obtain rfl : t = A.length := by omega
        clear htl ht
        go_wp2_with fail
        go_meet
        exact ⟨qo, qc, rfl, H⟩
      obtain ⟨x, hx⟩ : ∃ x, A[t]? = some x := ⟨_, List.getElem?_eq_getElem htl⟩
      have HX := Lib.hid hx
      have HTL := Lib.hid htl
      have ht0 : (0 : Int) ≤ t := Int.natCast_nonneg _
      have ht1 : (t : Int) < A.length := by omega
      obtain ⟨ga, e2, y0, y1, y2⟩ := least_of_cells (show OwnW 3 wr 0 49 (.slice po A.length pc) (A.map pvSlot) from H.out.get 4 rfl).rd hx
      subst e2
      obtain ⟨xo, xn, xc, hxv⟩ := (show Pool wr (A.map pvRow) from H.out.get 5 rfl).ok x (List.mem_of_getElem? hx)
      have KN : Hid (¬ Lf.same x.1 ⟨M, R, full k⟩ → kept ⟨M, R, full k⟩ A (t + 1) = kept ⟨M, R, full k⟩ A t ++ [x]) := fun h => by rw [kept_step hx, if_neg h]
      have KO : Hid (Lf.same x.1 ⟨M, R, full k⟩ → kept ⟨M, R, full k⟩ A (t + 1) = kept ⟨M, R, full k⟩ A t) := fun h => by rw [kept_step hx, if_pos h]
      have x0 := (H.out.get 2 rfl : Blk _ _ _ _).cell (j := 0) rfl
      have x1 := (H.out.get 2 rfl : Blk _ _ _ _).cell (j := 1) rfl
      clear htl hx ht
      obtain ⟨⟨xm, xr, xb⟩, xv⟩ := x
      dsimp only at y0 y1 y2 hxv KN KO
      subst hxv
      have B1 : Hid ((kept ⟨M, R, full k⟩ A t).length + 1 ≤ maxLen) := by have := KL.out; have := LA.out; have := HTL.out; show _ ≤ _; unfold maxLen; omega
      have B2 : Hid (((kept ⟨M, R, full k⟩ A t).length + 1) * 40 ≤ 140737488355328) := by have := KL.out; have := LA.out; have := HTL.out; show _ ≤ _; omega
      by_cases c1 : xm = M
      · have e1 : ((xm : Int) != (M : Int)) = false := by simp [c1]
        by_cases c2 : xr = R
        · have e2 : ((xr : Int) != (R : Int)) = false := by simp [c2]
          have KE := Lib.hid (KO.out ⟨c1, c2⟩)
          clear c1 c2 KN KO
          go_upto_region 16 with fail
          go_quiet (fail)
          go_wp2_with fail
          exact ⟨⟨t + 1, by have := HTL.out; omega, by rw [WT.out.2]; rfl, by rw [KE.out]; exact H.out.quiet ((Chg.refl _ _).drewN nq)⟩, by have := HTL.out; rw [WT.out.2]; simp [intOf]; omega⟩
        · have e2 : ((xr : Int) != (R : Int)) = true := by simp; omega
          have SM : Hid (¬ Lf.same ⟨xm, xr, xb⟩ ⟨M, R, full k⟩) := fun h => c2 h.2
          clear c1 c2 KO
          go_upto_region 16 with fail
          go_quiet (fail)
          have H5 := Lib.hid (H.out.quiet ((Chg.refl _ _).drewN nq))
          have OB := (show OwnW 3 (wr.drewN nq) 0 49 (.slice qo (kept ⟨M, R, full k⟩ A t).length qc) ((kept ⟨M, R, full k⟩ A t).map pvSlot) from H5.out.get 0 rfl)
          have OR : Hid ((wr.drewN nq).ownsRow 0 49 3 (.slice qo (kept ⟨M, R, full k⟩ A t).length qc) (kept ⟨M, R, full k⟩ A t).length ((kept ⟨M, R, full k⟩ A t).map pvSlot).flatten) := by have := OB.2; rw [List.length_map] at this; exact this
          clear H OB y0 y1 y2 x0 x1
          generalize wr.drewN nq = w9 at *
          obtain ⟨_, e9, y0, y1, y2⟩ := least_of_cells (show OwnW 3 w9 0 49 (.slice (some ⟨ga, 0, none⟩) A.length pc) (A.map pvSlot) from H5.out.get 4 rfl).rd HX.out
          obtain rfl := (show ga = _ by simpa using e9)
          dsimp only at y0 y1 y2
          have H7 : Hid (Side W (w9.alloc (.cells #[.int .i64 (xm : Int), .int .i64 (xr : Int), .slice xo xn xc] 49)) _) := H5.out.quiet ((Chg.refl _ _).alloc _)
          replace KN : Hid (kept ⟨M, R, full k⟩ A (t + 1) = kept ⟨M, R, full k⟩ A t ++ [(⟨xm, xr, xb⟩, .slice xo xn xc)]) := KN.out SM.out
          clear H5
          generalize kept ⟨M, R, full k⟩ A t = B at *
          go_wp2_with (at_builtin; refine wpList_append_three _ rfl (.tmp 115) (.tmp 120) 56 rfl 0 49 i0 (.agg #[.int .i64 0, .int .i64 0, .slice none 0 0]) 3 40 Try.underlying56 hi.out hz0.out hz1.out hz2.out rfl (by decide) _ B.length _ rfl (OR.out.alloc _) ⟨w9.heap.size, 0, none⟩ 1 1 [.int .i64 (xm : Int), .int .i64 (xr : Int), .slice xo xn xc] rfl rfl (three_new w9 (.int .i64 (xm : Int)) (.int .i64 (xr : Int)) (.slice xo xn xc) 49) (by simp [Value.oneCell']) B1.out B2.out (Nat.zero_le _) ?_; intro vn wn ol gr nb)
          have gr2 : World.grownBy _ wn (Value.slice qo B.length qc).ownBlock := gr.out
          have nb2 : vn.ownBlock = (Value.slice qo B.length qc).ownBlock ∨ _ := nb.out
          have CG : Hid (Chg (Value.slice qo B.length qc).ownBlock.toList (w9.alloc (.cells #[.int .i64 (xm : Int), .int .i64 (xr : Int), .slice xo xn xc] 49)) wn) := (Chg.refl _ _).grown gr2 (fun k hk => .inl (by rw [hk]; simp))
          have H8 := Lib.hid (more_list (d := ⟨xm, xr, xb⟩) H7.out CG.out rfl ol.out (nb_of nb2 (Nat.le_refl _)))
          exact ⟨⟨t + 1, by have := HTL.out; omega, by rw [WT.out.2]; rfl, by rw [KN.out]; exact H8⟩, by have := HTL.out; rw [WT.out.2]; simp [intOf]; omega⟩
      · have e1 : ((xm : Int) != (M : Int)) = true := by simp; omega
        have SM : Hid (¬ Lf.same ⟨xm, xr, xb⟩ ⟨M, R, full k⟩) := fun h => c1 h.1
        clear c1 KO
        go_upto_region 16 with fail
        go_quiet (fail)
        have H5 := Lib.hid (H.out.quiet ((Chg.refl _ _).drewN nq))
        have OB := (show OwnW 3 (wr.drewN nq) 0 49 (.slice qo (kept ⟨M, R, full k⟩ A t).length qc) ((kept ⟨M, R, full k⟩ A t).map pvSlot) from H5.out.get 0 rfl)
        have OR : Hid ((wr.drewN nq).ownsRow 0 49 3 (.slice qo (kept ⟨M, R, full k⟩ A t).length qc) (kept ⟨M, R, full k⟩ A t).length ((kept ⟨M, R, full k⟩ A t).map pvSlot).flatten) := by have := OB.2; rw [List.length_map] at this; exact this
        clear H OB y0 y1 y2 x0 x1
        generalize wr.drewN nq = w9 at *
        obtain ⟨_, e9, y0, y1, y2⟩ := least_of_cells (show OwnW 3 w9 0 49 (.slice (some ⟨ga, 0, none⟩) A.length pc) (A.map pvSlot) from H5.out.get 4 rfl).rd HX.out
        obtain rfl := (show ga = _ by simpa using e9)
        dsimp only at y0 y1 y2
        have H7 : Hid (Side W (w9.alloc (.cells #[.int .i64 (xm : Int), .int .i64 (xr : Int), .slice xo xn xc] 49)) _) := H5.out.quiet ((Chg.refl _ _).alloc _)
        replace KN : Hid (kept ⟨M, R, full k⟩ A (t + 1) = kept ⟨M, R, full k⟩ A t ++ [(⟨xm, xr, xb⟩, .slice xo xn xc)]) := KN.out SM.out
        clear H5
        generalize kept ⟨M, R, full k⟩ A t = B at *
        go_wp2_with (at_builtin; refine wpList_append_three _ rfl (.tmp 115) (.tmp 120) 56 rfl 0 49 i0 (.agg #[.int .i64 0, .int .i64 0, .slice none 0 0]) 3 40 Try.underlying56 hi.out hz0.out hz1.out hz2.out rfl (by decide) _ B.length _ rfl (OR.out.alloc _) ⟨w9.heap.size, 0, none⟩ 1 1 [.int .i64 (xm : Int), .int .i64 (xr : Int), .slice xo xn xc] rfl rfl (three_new w9 (.int .i64 (xm : Int)) (.int .i64 (xr : Int)) (.slice xo xn xc) 49) (by simp [Value.oneCell']) B1.out B2.out (Nat.zero_le _) ?_; intro vn wn ol gr nb)
        have gr2 : World.grownBy _ wn (Value.slice qo B.length qc).ownBlock := gr.out
        have nb2 : vn.ownBlock = (Value.slice qo B.length qc).ownBlock ∨ _ := nb.out
        have CG : Hid (Chg (Value.slice qo B.length qc).ownBlock.toList (w9.alloc (.cells #[.int .i64 (xm : Int), .int .i64 (xr : Int), .slice xo xn xc] 49)) wn) := (Chg.refl _ _).grown gr2 (fun k hk => .inl (by rw [hk]; simp))
        have H8 := Lib.hid (more_list (d := ⟨xm, xr, xb⟩) H7.out CG.out rfl ol.out (nb_of nb2 (Nat.le_refl _)))
        exact ⟨⟨t + 1, by have := HTL.out; omega, by rw [WT.out.2]; rfl, by rw [KN.out]; exact H8⟩, by have := HTL.out; rw [WT.out.2]; simp [intOf]; omega⟩
  case rest =>
    obtain ⟨qo, qc, rfl, H⟩ := hcut
    rename_i KK aKK
    refine aKK _ _ ?_
    clear H8
    have OB := (show OwnW 3 wc 0 49 (.slice qo (kept ⟨M, R, full k⟩ A A.length).length qc) ((kept ⟨M, R, full k⟩ A A.length).map pvSlot) from H.out.get 0 rfl)
    have OR : Hid (wc.ownsRow 0 49 3 (.slice qo (kept ⟨M, R, full k⟩ A A.length).length qc) (kept ⟨M, R, full k⟩ A A.length).length ((kept ⟨M, R, full k⟩ A A.length).map pvSlot).flatten) := by have := OB.2; rw [List.length_map] at this; exact this
    have KL := Lib.hid (kept_len ⟨M, R, full k⟩ A A.length)
    have x0 := (H.out.get 2 rfl : Blk _ _ _ _).cell (j := 0) rfl
    have x1 := (H.out.get 2 rfl : Blk _ _ _ _).cell (j := 1) rfl
    have x2 := (H.out.get 2 rfl : Blk _ _ _ _).cell (j := 2) rfl
    have B1 : Hid ((kept ⟨M, R, full k⟩ A A.length).length + 1 ≤ maxLen) := by have := KL.out; have := LA.out; show _ ≤ _; unfold maxLen; omega
    have B2 : Hid (((kept ⟨M, R, full k⟩ A A.length).length + 1) * 40 ≤ 140737488355328) := by have := KL.out; have := LA.out; show _ ≤ _; omega
    have H7 : Hid (Side W (wc.alloc (.cells #[.int .i64 (M : Int), .int .i64 (R : Int), .slice (some ⟨g, 0, none⟩) 128 128] 49)) _) := H.out.quiet ((Chg.refl _ _).alloc _)
    have MK2 : ∀ v, Hid (Mk (kept ⟨M, R, full k⟩ A A.length ++ [(⟨M, R, full k⟩, v)]) (k + 1)) := fun v => MK.out.put HM.out HR.out (full_len _) BF.out
    have ME2 : ∀ v, Hid (∀ x, x ∈ dOf (kept ⟨M, R, full k⟩ A A.length ++ [(⟨M, R, full k⟩, v)]) ↔ x ∈ Lf.ins ⟨M, R, full k⟩ S) := fun v => put_mem SR.out ME.out
    have KS := Lib.hid (kept_sub ⟨M, R, full k⟩ A A.length)
    clear H OB KL
    generalize kept ⟨M, R, full k⟩ A A.length = B at *
    go_upto_region 19 with (at_builtin; refine wpList_append_three _ rfl (.tmp 122) (.tmp 124) 56 rfl 0 49 i0 (.agg #[.int .i64 0, .int .i64 0, .slice none 0 0]) 3 40 Try.underlying56 hi.out hz0.out hz1.out hz2.out rfl (by decide) _ B.length _ rfl (OR.out.alloc _) ⟨wc.heap.size, 0, none⟩ 1 1 [.int .i64 (M : Int), .int .i64 (R : Int), .slice (some ⟨g, 0, none⟩) 128 128] rfl rfl (three_new wc (.int .i64 (M : Int)) (.int .i64 (R : Int)) (.slice (some ⟨g, 0, none⟩) 128 128) 49) (by simp [Value.oneCell']) B1.out B2.out (Nat.zero_le _) ?_; intro vn wn ol gr nb)
    have gr2 : World.grownBy _ wn (Value.slice qo B.length qc).ownBlock := gr.out
    have nb2 : vn.ownBlock = (Value.slice qo B.length qc).ownBlock ∨ _ := nb.out
    have CG : Hid (Chg (Value.slice qo B.length qc).ownBlock.toList (wc.alloc (.cells #[.int .i64 (M : Int), .int .i64 (R : Int), .slice (some ⟨g, 0, none⟩) 128 128] 49)) wn) := (Chg.refl _ _).grown gr2 (fun k hk => .inl (by rw [hk]; simp))
    have H8 := more_list (d := ⟨M, R, full k⟩) H7.out CG.out rfl ol.out (nb_of nb2 (Nat.le_refl _))
    have H9 : Side W wn [dataT B, listT vn (B ++ [(⟨M, R, full k⟩, .slice (some ⟨g, 0, none⟩) 128 128)]), C.T P (Lf.ins ⟨M, R, full k⟩ S) row G5, blkT X 49 [.int .i64 (M : Int), .int .i64 (R : Int), .slice (some ⟨g, 0, none⟩) 128 128], ownT 5 (.slice (some ⟨g, 0, none⟩) 128 128) (ub (full k)), listT (.slice po A.length pc) A, C.T P2 (Lf.ins ⟨3, k, full 9⟩ S2) 7 G7] := (H8.front 5).subData KS.out
    have H10 : Side W wn [dataT (B ++ [(⟨M, R, full k⟩, .slice (some ⟨g, 0, none⟩) 128 128)]), listT vn (B ++ [(⟨M, R, full k⟩, .slice (some ⟨g, 0, none⟩) 128 128)]), C.T P (Lf.ins ⟨M, R, full k⟩ S) row G5, blkT X 49 [.int .i64 (M : Int), .int .i64 (R : Int), .slice (some ⟨g, 0, none⟩) 128 128], listT (.slice po A.length pc) A, C.T P2 (Lf.ins ⟨3, k, full 9⟩ S2) 7 G7] := by
      unfold dataT
      rw [List.map_append]
      exact (H9.front 4).pool
    have H11 : Side W wn [C.T P (Lf.ins ⟨M, R, full k⟩ S) row G5, C.T P2 (Lf.ins ⟨3, k, full 9⟩ S2) 7 G7, listT vn (B ++ [(⟨M, R, full k⟩, .slice (some ⟨g, 0, none⟩) 128 128)]), dataT (B ++ [(⟨M, R, full k⟩, .slice (some ⟨g, 0, none⟩) 128 128)])] := by
      have h1 := ((H10.front 4).tail.front 3).tail
      exact ((h1.front 1).front 3).front 3
    replace MK2 := MK2 (.slice (some ⟨g, 0, none⟩) 128 128)
    replace ME2 := ME2 (.slice (some ⟨g, 0, none⟩) 128 128)
    obtain ⟨A2, hA2⟩ : ∃ A2, A2 = B ++ [(⟨M, R, full k⟩, .slice (some ⟨g, 0, none⟩) 128 128)] := ⟨_, rfl⟩
    rw [← hA2] at H11 MK2 ME2
    obtain ⟨qp, qd, hqv⟩ := (show OwnW 3 wn 0 49 vn (A2.map pvSlot) from H11.get 2 rfl).slice
    rw [List.length_map] at hqv
    subst hqv
    have HN0 : 0 < A2.length := by rw [hA2]; simp
    have SR3 : Hid (Lf.Srt (Lf.ins ⟨M, R, full k⟩ S)) := Lf.srt_ins SR.out
    have SR4 : Hid (Lf.Srt (Lf.ins ⟨3, k, full 9⟩ S2)) := Lf.srt_ins SR2.out
    have LE : Hid ((Lf.ins ⟨3, k, full 9⟩ S2).length ≤ k + 1) := Nat.le_trans few_ins (Nat.succ_le_succ FE2.out)
    have LS : Hid ((Lf.ins ⟨M, R, full k⟩ S).length = A2.length) := by
      have h := Lf.Apart.len SR3.out.apart MK2.out.apart (fun x => (ME2.out x).symm)
      show _ = _
      rw [h]
      unfold dOf
      rw [List.length_map]
    have LA2 : Hid (A2.length ≤ 300) := by show _ ≤ _; have := MK2.out.few; have := HK.out; omega
    have FW3 : Hid (Few (Lf.ins ⟨M, R, full k⟩ S)) := by show (Lf.ins ⟨M, R, full k⟩ S).length ≤ 100000; have := LS.out; have := LA2.out; omega
    have SN : Hid (Lf.ins ⟨M, R, full k⟩ S ≠ []) := fun h => by have := LS.out; rw [h] at this; simp at this; omega
    have H12 := Lib.hid H11
    have BW : Hid (RdV wn (.slice bo bs.length bc) (bs.map Value.bool)) := BS.out wn H11.chg
    clear gr nb ol gr2 nb2 CG H7 H8 H9 H10 H11 KS B1 B2 x0 x1 x2 OR hA2 HN0 MK ME BF FW
    by_cases hkb : k < bs.length
    case neg =>
      have c1 : (bs.length : Int) ≤ (k : Int) := by omega
      clear hkb
      go_wp2_with fail
      exact hend.out (.exit 1) A2 (Lf.ins ⟨M, R, full k⟩ S) (Lf.ins ⟨3, k, full 9⟩ S2) row G5 G7 qp qd _ _ _ _ _ _ _ _ _ _ _ _ _ _ _ _ _ _ _ _ _ _ _ _ _ _ _ _ _ _ _ _ _ _ _ _ _ _ _ _ _ _ _ _ _ _ _ _ _ _ _ _ _ _ _ _ _ _ _ _ _ _ _ _ _ _ _ _ _ _ _ _ _ _ _ _ _ _ _ _ _ _ _ _ _ _ _ _ _ _ _ _ _ _ _ _ _ _ _ _ _ _ _ _ _ _ _ _ _ _ _ _ _ _ _ _ _ _ _ _ _ _ _ _ _ _ _ _ _ _ _ _ _ _ _ _ _ _ _ _ _ _ _ _ _ _ _ _ _ _ _ _ _ _ _ _ _ _ _ _ _ _ _ _ _ _ _ _ _ _ _ _ _ _ _ _ _ _ _ _ _ _ _ _ _ _ _ _ _ _ (.inr rfl) MK2 ME2 SR3 SR4 LE H12
    obtain ⟨b, hb⟩ : ∃ b, bs[k]? = some b := ⟨_, List.getElem?_eq_getElem hkb⟩
    have hu : (bs.map Value.bool)[k]? = some (.bool b) := by rw [List.getElem?_map, hb]; rfl
    obtain ⟨bb, bf, ebo, cb⟩ := BW.out.at hu
    subst ebo
    have c1 : ¬ (bs.length : Int) ≤ (k : Int) := by omega
    have k0 : (0 : Int) ≤ (k : Int) := by omega
    have k1 : (k : Int) < bs.length := by omega
    clear hkb hb hu BW
    cases b
    case false =>
      go_wp2_with fail
      exact hend.out (.exit 1) A2 (Lf.ins ⟨M, R, full k⟩ S) (Lf.ins ⟨3, k, full 9⟩ S2) row G5 G7 qp qd _ _ _ _ _ _ _ _ _ _ _ _ _ _ _ _ _ _ _ _ _ _ _ _ _ _ _ _ _ _ _ _ _ _ _ _ _ _ _ _ _ _ _ _ _ _ _ _ _ _ _ _ _ _ _ _ _ _ _ _ _ _ _ _ _ _ _ _ _ _ _ _ _ _ _ _ _ _ _ _ _ _ _ _ _ _ _ _ _ _ _ _ _ _ _ _ _ _ _ _ _ _ _ _ _ _ _ _ _ _ _ _ _ _ _ _ _ _ _ _ _ _ _ _ _ _ _ _ _ _ _ _ _ _ _ _ _ _ _ _ _ _ _ _ _ _ _ _ _ _ _ _ _ _ _ _ _ _ _ _ _ _ _ _ _ _ _ _ _ _ _ _ _ _ _ _ _ _ _ _ _ _ _ _ _ _ _ _ _ _ (.inr rfl) MK2 ME2 SR3 SR4 LE H12
    case true =>
      go_upto_if 136 with fail
      go_cut [9] from 126 to 136 (fun s9 wx => s9 = .slice qp A2.length qd ∧ wx = wn)
      case first =>
        go_wp2_with fail
        go_meet
        exact ⟨rfl, rfl⟩
      case rest =>
        obtain ⟨rfl, rfl⟩ := hcut
        rename_i K2 aK2
        refine aK2 _ _ ?_
        refine step_take (by kernel_rfl) C W _ _ (k + 1) row P P2 qd qp A2 (Lf.ins ⟨M, R, full k⟩ S) (Lf.ins ⟨3, k, full 9⟩ S2) G5 G7 _ _ _ _ _ _ _ _ _ _ _ _ _ _ _ _ _ _ _ _ _ _ _ _ _ _ _ _ _ _ _ _ _ _ _ _ _ _ _ _ _ _ _ _ _ _ _ _ _ _ _ _ _ _ _ _ _ _ _ _ _ _ _ _ _ _ _ _ _ _ _ _ _ _ _ _ _ _ _ _ _ _ _ _ _ _ _ _ _ _ _ _ _ _ _ _ _ _ _ _ _ _ _ _ _ _ _ _ _ _ _ _ _ _ _ _ _ _ _ _ _ _ _ _ _ _ _ _ _ _ _ _ _ _ _ _ _ _ _ _ _ _ _ _ _ _ _ _ _ _ _ _ _ _ _ _ _ _ _ _ _ _ _ _ _ _ _ _ _ _ _ _ _ _ _ _ _ _ _ _ _ _ _ _ _ _ _ _ _ _ _ _ _ _ _ _ _ _ _ _ _ _ _ _ _ _ _ _ _ _ _ _ _ _ _ _ _ _ _ _ _ _ _ _ _ _ _ _ _ _ _ _ _ _ _ _ _ _ _ _ _ _ _ _ _ _ _ _ _ _ _ _ _ _ _ _ _ _ _ _ ME2 SR3 LS LA2 MK2 FW3 SN H12 ?_
        intro A' S' row' G' po' pc' w'
        intros
        exact hend.out .normal A' S' (Lf.ins ⟨3, k, full 9⟩ S2) row' G' G7 po' pc' w' _ _ _ _ _ _ _ _ _ _ _ _ _ _ _ _ _ _ _ _ _ _ _ _ _ _ _ _ _ _ _ _ _ _ _ _ _ _ _ _ _ _ _ _ _ _ _ _ _ _ _ _ _ _ _ _ _ _ _ _ _ _ _ _ _ _ _ _ _ _ _ _ _ _ _ _ _ _ _ _ _ _ _ _ _ _ _ _ _ _ _ _ _ _ _ _ _ _ _ _ _ _ _ _ _ _ _ _ _ _ _ _ _ _ _ _ _ _ _ _ _ _ _ _ _ _ _ _ _ _ _ _ _ _ _ _ _ _ _ _ _ _ _ _ _ _ _ _ _ _ _ _ _ _ _ _ _ _ _ _ _ _ _ _ _ _ _ _ _ _ _ _ _ _ _ _ _ _ _ _ _ _ _ _ _ _ _ _ _ (.inl rfl) (by assumption) (by assumption) (by assumption) SR4 LE (by assumption)

end Go.Proofs.Ytihmegpcbpdipaa
