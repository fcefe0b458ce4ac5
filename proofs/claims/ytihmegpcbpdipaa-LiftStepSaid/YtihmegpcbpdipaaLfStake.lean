/-
  LiftStep's Next, looked at. By an AI agent. Printed by gen_stake.py.
-/
import Derived.Test.YtihmegpcbpdipaaLfStail
import Derived.Deep.RegionHeld3
import Derived.Deep.CutBlock
import Derived.Deep.DeepCutAuto
namespace Go.Proofs.Ytihmegpcbpdipaa
open Go.RowKit

noncomputable def stepTake : Code := (Try.f6.body.bind (codeFrom 20)).getD .skip

theorem Mk.cut {A : List Pv} {k : Nat} (h : Mk A k) (d : Pd) : Mk (kept d A A.length) k :=
  ⟨h.apart.sub ((kept_sub d A _).map _), Nat.le_trans (kept_len d A _) h.few, fun p hp => h.each p ((kept_sub d A _).subset hp)⟩

set_option maxHeartbeats 8000000 in
set_option maxRecDepth 1000000 in
theorem step_take {co : Code} (hco : stepTake = co) (C : LiftCons) (W w : World) (Q : Exit → Act → World → Prop) (k row P P2 pc : Nat) (po : Option Addr) (A : List Pv) (S S2 : List Pd) (G G2 : List Nat) (l0 l1 l2 l3 l4 l6 l7 l8 l10 l11 l12 l13 l14 l15 l16 l17 l18 l19 l20 l21 l22 l23 l24 l25 l26 l27 l28 l29 l30 l31 l32 l33 l34 l35 l36 l37 l38 l39 l40 l41 l42 l43 l44 l45 l46 l47 l48 l49 l50 l51 l52 l53 l54 l55 l56 l57 l58 l59 l60 l61 l62 l63 l64 l65 l66 l67 l68 l69 l70 l71 l72 l73 l74 l75 l76 l77 l78 l79 l80 l81 l82 l83 l84 l85 l86 l87 l88 l89 l90 l91 l92 l93 l94 l95 l96 l97 l98 l99 l100 l101 l102 l103 l104 l105 l106 l107 l108 l109 l110 l111 l112 l113 l114 l115 l116 l117 l118 l119 l120 l121 l122 l123 l124 l125 l126 l127 l128 l129 l130 l131 l132 l133 l134 l135 l136 l137 l138 l139 l140 l141 l142 l143 l144 l145 l146 l147 l148 l149 l150 l151 l152 l153 l154 l155 l156 l157 l158 l159 l160 l161 l162 l163 l164 l165 l166 l167 l168 l169 l170 l171 l172 l173 l174 l175 l176 l177 l178 l179 l180 l181 l182 l183 l184 l185 l186 l187 l188 l189 l190 l191 l192 l193 l194 l195 l196 l197 l198 l199 l200 l201 l202 l203 l204 l205 l206 l207 l208 l209 l210 l211 l212 l213 l214 l215 l216 l217 l218 l219 l220 l221 l222 l223 l224 l225 l226 l227 l228 l229 l230 l231 l232 l233 l234 l235 l236 l237 l238 l239 l240 l241 l242 l243 l244 l245 l246 l247 l248 l249 l250 l251 l252 l253 l254 l255 l256 l257 l258 l259 l260 l261 : Value)
    (ME : Hid (∀ x, x ∈ dOf A ↔ x ∈ S)) (SR : Hid (Lf.Srt S)) (LS : Hid (S.length = A.length)) (LA : Hid (A.length ≤ 300)) (MK : Hid (Mk A k)) (FW : Hid (Few S)) (SN : Hid (S ≠ []))
    (H : Hid (Side W w [C.T P S row G, C.T P2 S2 7 G2, listT (.slice po A.length pc) A, dataT A]))
    (hend : ∀ (A' : List Pv) (S' : List Pd) (row' : Nat) (G' : List Nat) (po' : Option Addr) (pc' : Nat) (w' : World) (m4 m12 m14 m15 m16 m17 m18 m19 m20 m137 m138 m139 m140 m141 m142 m143 m144 m145 m146 m147 m148 m149 m150 m151 m152 m153 m154 m155 m156 m157 m158 m159 m160 m161 m162 m163 m164 m165 m166 m167 m168 m169 m170 m171 m172 m173 m174 m175 m176 m177 m178 m179 m180 m181 m182 m183 m184 m185 m186 m187 m188 m189 m190 m191 m192 m193 m194 m195 m196 m197 m198 m199 m200 m201 m202 m203 m204 m205 m206 m207 m208 m209 m210 m211 m212 m213 m214 m215 m216 m217 m218 m219 m220 m221 m222 m223 m224 m225 m226 m227 m228 m229 m230 m231 m232 m233 m234 m235 m236 m237 m238 m239 m240 m241 m242 m243 m244 m245 m246 m247 m248 m249 m250 m251 m252 m253 m254 m255 m256 m257 m258 m259 m260 m261 : Value), Hid (Mk A' k) → Hid (∀ x, x ∈ dOf A' ↔ x ∈ S') → Hid (Lf.Srt S') → Hid (Side W w' [C.T P S' row' G', C.T P2 S2 7 G2, listT (.slice po' A'.length pc') A', dataT A']) → Q .normal ⟨#[l0, l1, l2, l3, m4, .pointer (some ⟨P, 0, none⟩), l6, l7, l8, .slice po' A'.length pc', l10, l11, m12, l13, m14, m15, m16, m17, m18, m19, m20, l21, l22, l23, l24, l25, l26, l27, l28, l29, l30, l31, l32, l33, l34, l35, l36, l37, l38, l39, l40, l41, l42, l43, l44, l45, l46, l47, l48, l49, l50, l51, l52, l53, l54, l55, l56, l57, l58, l59, l60, l61, l62, l63, l64, l65, l66, l67, l68, l69, l70, l71, l72, l73, l74, l75, l76, l77, l78, l79, l80, l81, l82, l83, l84, l85, l86, l87, l88, l89, l90, l91, l92, l93, l94, l95, l96, l97, l98, l99, l100, l101, l102, l103, l104, l105, l106, l107, l108, l109, l110, l111, l112, l113, l114, l115, l116, l117, l118, l119, l120, l121, l122, l123, l124, l125, l126, l127, l128, l129, l130, l131, l132, l133, l134, l135, l136, m137, m138, m139, m140, m141, m142, m143, m144, m145, m146, m147, m148, m149, m150, m151, m152, m153, m154, m155, m156, m157, m158, m159, m160, m161, m162, m163, m164, m165, m166, m167, m168, m169, m170, m171, m172, m173, m174, m175, m176, m177, m178, m179, m180, m181, m182, m183, m184, m185, m186, m187, m188, m189, m190, m191, m192, m193, m194, m195, m196, m197, m198, m199, m200, m201, m202, m203, m204, m205, m206, m207, m208, m209, m210, m211, m212, m213, m214, m215, m216, m217, m218, m219, m220, m221, m222, m223, m224, m225, m226, m227, m228, m229, m230, m231, m232, m233, m234, m235, m236, m237, m238, m239, m240, m241, m242, m243, m244, m245, m246, m247, m248, m249, m250, m251, m252, m253, m254, m255, m256, m257, m258, m259, m260, m261], []⟩ w') :
    Code.wp Try.prog co Q ⟨#[l0, l1, l2, l3, l4, .pointer (some ⟨P, 0, none⟩), l6, l7, l8, .slice po A.length pc, l10, l11, l12, l13, l14, l15, l16, l17, l18, l19, l20, l21, l22, l23, l24, l25, l26, l27, l28, l29, l30, l31, l32, l33, l34, l35, l36, l37, l38, l39, l40, l41, l42, l43, l44, l45, l46, l47, l48, l49, l50, l51, l52, l53, l54, l55, l56, l57, l58, l59, l60, l61, l62, l63, l64, l65, l66, l67, l68, l69, l70, l71, l72, l73, l74, l75, l76, l77, l78, l79, l80, l81, l82, l83, l84, l85, l86, l87, l88, l89, l90, l91, l92, l93, l94, l95, l96, l97, l98, l99, l100, l101, l102, l103, l104, l105, l106, l107, l108, l109, l110, l111, l112, l113, l114, l115, l116, l117, l118, l119, l120, l121, l122, l123, l124, l125, l126, l127, l128, l129, l130, l131, l132, l133, l134, l135, l136, l137, l138, l139, l140, l141, l142, l143, l144, l145, l146, l147, l148, l149, l150, l151, l152, l153, l154, l155, l156, l157, l158, l159, l160, l161, l162, l163, l164, l165, l166, l167, l168, l169, l170, l171, l172, l173, l174, l175, l176, l177, l178, l179, l180, l181, l182, l183, l184, l185, l186, l187, l188, l189, l190, l191, l192, l193, l194, l195, l196, l197, l198, l199, l200, l201, l202, l203, l204, l205, l206, l207, l208, l209, l210, l211, l212, l213, l214, l215, l216, l217, l218, l219, l220, l221, l222, l223, l224, l225, l226, l227, l228, l229, l230, l231, l232, l233, l234, l235, l236, l237, l238, l239, l240, l241, l242, l243, l244, l245, l246, l247, l248, l249, l250, l251, l252, l253, l254, l255, l256, l257, l258, l259, l260, l261], []⟩ w := by
  obtain ⟨i0, hi, hz0, hz1, hz2⟩ := info_parts info_patch
  replace hi := Lib.hid hi
  replace hz0 := Lib.hid hz0
  replace hz1 := Lib.hid hz1
  replace hz2 := Lib.hid hz2
  replace hend := Lib.hid hend
  subst hco
  conv => arg 2; whnf
  have R0 := Lib.hid (C.row w P row S G (H.out.get 0 rfl))
  go_wp2_with fail
  refine R0.out.mono ?_
  rintro e w1 ⟨rfl, q1, rfl⟩
  have H1 := Lib.hid (H.out.quiet ((Chg.refl _ _).drewN q1))
  clear R0 H
  generalize w.drewN q1 = w1 at *
  go_wp2_with fail
  refine (C.next W w1 _ P row S G SR.out FW.out H1.out).mono ?_
  rintro e w2 (⟨hS, _⟩ | ⟨d, dv, e8, F, hway, hd, rfl, H2⟩)
  · exact absurd hS SN.out
  obtain ⟨vo, vc, rfl⟩ : ∃ vo vc, dv = .slice vo (ub d.bs).length vc := by
    have o : w2.ownsRow 0 e8 1 dv (ub d.bs).length (ub d.bs) := H2.out.get 0 rfl
    exact owns_slice o
  obtain ⟨vn, hvn⟩ : ∃ vn, vn = (ub d.bs).length := ⟨_, rfl⟩
  rw [← hvn] at H2 ⊢
  replace hvn := Lib.hid hvn
  have H3 := H2.out.boxed [.int .i64 (d.m : Int), .int .i64 (d.r : Int), .slice vo vn vc] 49
  obtain ⟨X, hX⟩ : ∃ X, X = w2.heap.size := ⟨_, rfl⟩
  rw [← hX] at H3
  replace hX := Lib.hid hX
  have H4 : Hid (Side W (w2.alloc (.cells [Value.int .i64 (d.m : Int), .int .i64 (d.r : Int), .slice vo vn vc].toArray 49)) [listT (.slice none 0 0) (kept d A 0), ownT e8 (.slice vo vn vc) (ub d.bs), blkT X 49 [.int .i64 (d.m : Int), .int .i64 (d.r : Int), .slice vo vn vc], C.T P (Lf.out d S) d.r F, C.T P2 S2 7 G2, listT (.slice po A.length pc) A, dataT A]) := by
    have h1 := H3.add (b := listT (.slice none 0 0) (kept d A 0)) (Chg.refl _ _) (OwnW.nil 3 _ 0 _) (fun k hk => by simp [listT, wideT, Value.ownBlock] at hk)
    exact (h1.front 2).front 1
  have WL : Hid (∀ x ∈ S, ¬ ((row ≤ x.r ∧ d.r < row) ∨ ((row ≤ x.r ↔ row ≤ d.r) ∧ (x.r < d.r ∨ (x.r = d.r ∧ x.m < d.m))))) := fun x hx => Lf.way_least SR.out hway hx
  have INA : Hid (∃ (j : Nat) (z : Pv), A[j]? = some z ∧ z.1 = d) := by
    obtain ⟨z, hz, e⟩ := List.mem_map.1 ((ME.out _).2 hd)
    obtain ⟨j, hj⟩ := List.mem_iff_getElem?.1 hz
    exact ⟨j, z, hj, e⟩
  have HDS := Lib.hid hd
  have BD : Hid (d.bs.length = 128) := by
    obtain ⟨j, z, hj, e⟩ := INA.out
    have := (MK.out.each z (List.mem_of_getElem? hj)).2.2.1
    rw [e] at this
    exact this
  clear H1 H2 H3 hway hd
  go_upto_region 22 with fail
  rw [← hX.out]
  generalize w2.alloc (.cells [Value.int .i64 (d.m : Int), .int .i64 (d.r : Int), .slice vo vn vc].toArray 49) = w3 at *
  go_wp2_with fail
  go_loopw [12, 17, 18] (fun o fb j wr => ∃ (t : Nat) (f : Bool), t ≤ A.length ∧ j = .int .i64 t ∧ fb = .bool f ∧ Hid (∀ (j : Nat) (z : Pv), j < t → A[j]? = some z → z.1 = d → f = true) ∧ Hid (Side W wr [listT o (kept d A t), ownT e8 (.slice vo vn vc) (ub d.bs), blkT X 49 [.int .i64 (d.m : Int), .int .i64 (d.r : Int), .slice vo vn vc], C.T P (Lf.out d S) d.r F, C.T P2 S2 7 G2, listT (.slice po A.length pc) A, dataT A])) (fun _ _ j _ => A.length - (intOf j).toNat)
  case atStart => exact ⟨0, false, Nat.zero_le _, rfl, rfl, (fun j z hj => absurd hj (by omega)), H4⟩
  case round =>
    obtain ⟨t, f, ht, rfl, rfl, FF, H⟩ := hrel
    clear H4
    obtain ⟨qo, qc, hqv⟩ := (show OwnW 3 wr 0 49 u12 ((kept d A t).map pvSlot) from H.out.get 0 rfl).slice
    rw [List.length_map] at hqv
    subst hqv
    have WT := Lib.hid (wrap_in (z := (t : Int) + 1) (by have := LA.out; omega) (by have := LA.out; omega))
    have KL := Lib.hid (kept_len d A t)
    by_cases htl : t < A.length
    case neg =>
      obtain rfl : t = A.length := by omega
      obtain rfl : f = true := by
        obtain ⟨j, z, hj, e⟩ := INA.out
        exact FF.out j z (List.getElem?_eq_some_iff.1 hj).1 hj e
      have hge : ¬ ((A.length : Nat) : Int) < A.length := by omega
      have d1 := (H.out.get 2 rfl : Blk _ _ _ _).cell (j := 1) rfl
      have KA := kept_all d A
      have LK : Hid ((Lf.out d S).length = (kept d A A.length).length) := by
        have h1 := Lf.Apart.len (Lf.srt_out SR.out).apart ((MK.out.cut d).apart) (fun x => by
          rw [KA, Lf.mem_out, Lf.mem_out, ME.out])
        show _ = _
        rw [h1]
        unfold dOf
        rw [List.length_map]
      have RW : Hid (∀ n, Calls Try.prog 23 #[.pointer (some ⟨P, 0, none⟩)] (wr.drewN n) fun e w' => e = .returned (.int .i64 (d.r : Int)) ∧ ∃ q, w' = (wr.drewN n).drewN q) := fun n => C.row _ P d.r (Lf.out d S) F ((H.out.quiet ((Chg.refl [] _).drewN n)).get 3 rfl)
      have LN : Hid (∀ n, Calls Try.prog 22 #[.pointer (some ⟨P, 0, none⟩)] (wr.drewN n) fun e w' => e = .returned (.int .i64 ((kept d A A.length).length : Int)) ∧ ∃ q, w' = (wr.drewN n).drewN q) := fun n => by
        rw [← LK.out]
        exact C.len _ P d.r (Lf.out d S) F ((H.out.quiet ((Chg.refl [] _).drewN n)).get 3 rfl) (Nat.le_trans few_out FW.out)
      have MK2 : Hid (Mk (kept d A A.length) k) := MK.out.cut d
      have ME2 : Hid (∀ x, x ∈ dOf (kept d A A.length) ↔ x ∈ Lf.out d S) := fun x => by rw [KA, Lf.mem_out, Lf.mem_out, ME.out]
      have SR2 : Hid (Lf.Srt (Lf.out d S)) := Lf.srt_out SR.out
      have KS := Lib.hid (kept_sub d A A.length)
      clear htl ht KA LK WT KL FF INA
      generalize kept d A A.length = B at *
      go_upto_region 37 with fail
      go_quiet (first | (go_at_call 23; exact Calls.quiet_of (RW.out _)) | (go_at_call 22; exact Calls.quiet_of (LN.out _)))
      have H9 : Hid (Side W (wr.drewN nq) [C.T P (Lf.out d S) d.r F, C.T P2 S2 7 G2, listT (.slice qo B.length qc) B, dataT B]) := by
        have h1 := H.out.quiet ((Chg.refl _ _).drewN nq)
        have h2 := (h1.front 6).subData KS.out
        have h3 := ((h2.front 6).tail.front 3).tail
        have h4 := (h3.front 2).tail
        exact ((h4.front 1).front 3).front 3
      go_wp2_with fail
      exact hend.out B (Lf.out d S) d.r F qo qc _ _ _ _ _ _ _ _ _ _ _ _ _ _ _ _ _ _ _ _ _ _ _ _ _ _ _ _ _ _ _ _ _ _ _ _ _ _ _ _ _ _ _ _ _ _ _ _ _ _ _ _ _ _ _ _ _ _ _ _ _ _ _ _ _ _ _ _ _ _ _ _ _ _ _ _ _ _ _ _ _ _ _ _ _ _ _ _ _ _ _ _ _ _ _ _ _ _ _ _ _ _ _ _ _ _ _ _ _ _ _ _ _ _ _ _ _ _ _ _ _ _ _ _ _ _ _ _ _ _ _ _ _ _ _ MK2 ME2 SR2 H9
    obtain ⟨x, hx⟩ : ∃ x, A[t]? = some x := ⟨_, List.getElem?_eq_getElem htl⟩
    have HX := Lib.hid hx
    have HTL := Lib.hid htl
    have ht0 : (0 : Int) ≤ t := Int.natCast_nonneg _
    have ht1 : (t : Int) < A.length := by omega
    obtain ⟨g, e2, y0, y1, y2⟩ := least_of_cells (show OwnW 3 wr 0 49 (.slice po A.length pc) (A.map pvSlot) from H.out.get 5 rfl).rd hx
    subst e2
    obtain ⟨xo, xn, xc, hxv⟩ := (show Pool wr (A.map pvRow) from H.out.get 6 rfl).ok x (List.mem_of_getElem? hx)
    have KN : Hid (¬ Lf.same x.1 d → kept d A (t + 1) = kept d A t ++ [x]) := fun h => by rw [kept_step hx, if_neg h]
    have KO : Hid (Lf.same x.1 d → kept d A (t + 1) = kept d A t) := fun h => by rw [kept_step hx, if_pos h]
    have XS : x.1 ∈ S := (ME.out _).1 (List.mem_map.2 ⟨x, List.mem_of_getElem? hx, rfl⟩)
    have XD : Hid (Lf.same x.1 d → x.1 = d) := fun h => SR.out.ne XS HDS.out h
    have WX := WL.out _ XS
    have SX : Hid (∀ w', Chg [] wr w' → Sl w' x.2 (ints x.1.bs)) := fun w' c => data_sl (H.out.quiet c) 6 rfl HX.out
    have SD : Hid (∀ w', Chg [] wr w' → Sl w' (.slice vo vn vc) (ints d.bs)) := fun w' c => (H.out.quiet c).sl 1 rfl
    have B1 : Hid ((kept d A t).length + 1 ≤ maxLen) := by have := KL.out; have := LA.out; have := HTL.out; show _ ≤ _; unfold maxLen; omega
    have B2 : Hid (((kept d A t).length + 1) * 40 ≤ 140737488355328) := by have := KL.out; have := LA.out; have := HTL.out; show _ ≤ _; omega
    clear hx htl ht XS
    obtain ⟨⟨xm, xr, xb⟩, xv⟩ := x
    obtain ⟨dm, dr, db⟩ := d
    dsimp only at y0 y1 y2 hxv KN KO XD WX SX
    subst hxv
    have HT1 : Hid (t + 1 ≤ A.length) := HTL.out
    have MZ : Hid (A.length - (t + 1) < A.length - t) := by show _ < _; have := HTL.out; omega
    have d0 := (H.out.get 2 rfl : Blk _ _ _ _).cell (j := 0) rfl
    have d1 := (H.out.get 2 rfl : Blk _ _ _ _).cell (j := 1) rfl
    have d2 := (H.out.get 2 rfl : Blk _ _ _ _).cell (j := 2) rfl
    dsimp only at d0 d1 d2
    go_upto_region 29 with fail
    go_cut [19] from 146 to 244 (fun s19 wx => s19 = .bool (decide (Lf.same ⟨xm, xr, xb⟩ ⟨dm, dr, db⟩)) ∧ ∃ n, wx = wr.drewN n)
    case first =>
      by_cases c1 : xm = dm
      · have e1 : ((xm : Int) == (dm : Int)) = true := by simp [c1]
        by_cases c2 : xr = dr
        · have e2 : ((xr : Int) == (dr : Int)) = true := by simp [c2]
          have RS : Hid (decide (Lf.same ⟨xm, xr, xb⟩ ⟨dm, dr, db⟩) = true) := decide_eq_true ⟨c1, c2⟩
          clear c1 c2
          go_quiet (fail)
          go_wp2_with fail
          go_meet
          exact ⟨by rw [RS.out], _, rfl⟩
        · have e2 : ((xr : Int) == (dr : Int)) = false := by simp; omega
          have RS : Hid (decide (Lf.same ⟨xm, xr, xb⟩ ⟨dm, dr, db⟩) = false) := decide_eq_false fun h => c2 h.2
          clear c1 c2
          go_quiet (fail)
          go_wp2_with fail
          go_meet
          exact ⟨by rw [RS.out], _, rfl⟩
      · have e1 : ((xm : Int) == (dm : Int)) = false := by simp; omega
        have RS : Hid (decide (Lf.same ⟨xm, xr, xb⟩ ⟨dm, dr, db⟩) = false) := decide_eq_false fun h => c1 h.1
        clear c1
        go_quiet (fail)
        go_wp2_with fail
        go_meet
        exact ⟨by rw [RS.out], _, rfl⟩
    case rest =>
      obtain ⟨rfl, n1, rfl⟩ := hcut
      rename_i KK aKK
      refine aKK _ _ ?_
      obtain ⟨sb, hsb⟩ : ∃ sb, sb = decide (Lf.same ⟨xm, xr, xb⟩ ⟨dm, dr, db⟩) := ⟨_, rfl⟩
      rw [← hsb]
      replace hsb := Lib.hid hsb
      have H5 := Lib.hid (H.out.quiet ((Chg.refl _ _).drewN n1))
      replace SX : Hid (∀ w', Chg [] (wr.drewN n1) w' → Sl w' (.slice xo xn xc) (ints xb)) := fun w' c => SX.out w' (((Chg.refl _ _).drewN n1).trans c)
      replace SD : Hid (∀ w', Chg [] (wr.drewN n1) w' → Sl w' (.slice vo vn vc) (ints db)) := fun w' c => SD.out w' (((Chg.refl _ _).drewN n1).trans c)
      clear y0 y1 y2 d0 d1 d2 H
      generalize wr.drewN n1 = w8 at *
      obtain ⟨_, e2, y0, y1, y2⟩ := least_of_cells (show OwnW 3 w8 0 49 (.slice (some ⟨g, 0, none⟩) A.length pc) (A.map pvSlot) from H5.out.get 5 rfl).rd HX.out
      obtain rfl := (show g = _ by simpa using e2)
      have d0 := (H5.out.get 2 rfl : Blk _ _ _ _).cell (j := 0) rfl
      have d1 := (H5.out.get 2 rfl : Blk _ _ _ _).cell (j := 1) rfl
      have d2 := (H5.out.get 2 rfl : Blk _ _ _ _).cell (j := 2) rfl
      dsimp only at y0 y1 y2 d0 d1 d2
      have SC : Hid (Lf.same ⟨xm, xr, xb⟩ ⟨dm, dr, db⟩ → ∀ n, Calls Try.prog 26 #[.slice xo xn xc, .slice vo vn vc] (w8.drewN n) fun e w' => e = .returned (.bool true) ∧ ∃ q, w' = (w8.drewN n).drewN q) := fun hs n => by
        have hxd := XD.out hs
        obtain ⟨rfl, rfl, rfl⟩ : xm = dm ∧ xr = dr ∧ xb = db := by simpa using hxd
        exact same_true _ _ (ints xb) _ (SX.out _ ((Chg.refl _ _).drewN n)) (SD.out _ ((Chg.refl _ _).drewN n)) (by rw [ints_length]; have := BD.out; dsimp only at this; rw [this]; decide)
      have FF2 : Hid (∀ (j : Nat) (z : Pv), j < t + 1 → A[j]? = some z → z.1 = ⟨dm, dr, db⟩ → (f || sb) = true) := fun j z hj hz e => by
        by_cases c : j = t
        · subst c
          rw [HX.out] at hz
          obtain rfl := Option.some.inj hz
          dsimp only at e
          rw [hsb.out, e, decide_eq_true (Lf.same_refl _), Bool.or_true]
        · rw [FF.out j z (by omega) hz e, Bool.true_or]
      go_upto_region 30 with fail
      go_cut [17] from 146 to 244 (fun s17 wx => s17 = .bool (f || sb) ∧ ∃ n, wx = w8.drewN n)
      case first =>
        clear WX
        cases f
        case true =>
          go_quiet (fail)
          go_wp2_with fail
          go_meet
          exact ⟨by rw [Bool.true_or], _, rfl⟩
        case false =>
          by_cases hs : Lf.same ⟨xm, xr, xb⟩ ⟨dm, dr, db⟩
          · have SB := Lib.hid (SC.out hs)
            obtain rfl : sb = true := by rw [hsb.out]; exact decide_eq_true hs
            clear hs SC FF2
            go_quiet (first | (go_at_call 26; exact Calls.quiet_of (SB.out _)))
            go_wp2_with fail
            go_meet
            exact ⟨rfl, _, rfl⟩
          · obtain rfl : sb = false := by rw [hsb.out]; exact decide_eq_false hs
            clear hs SC FF2
            go_quiet (fail)
            go_wp2_with fail
            go_meet
            exact ⟨rfl, _, rfl⟩
      case rest =>
        obtain ⟨rfl, n2, rfl⟩ := hcut
        rename_i K2 aK2
        refine aK2 _ _ ?_
        obtain ⟨fb, hfb⟩ : ∃ fb, fb = (f || sb) := ⟨_, rfl⟩
        rw [← hfb]
        have FF3 : Hid (∀ (j : Nat) (z : Pv), j < t + 1 → A[j]? = some z → z.1 = ⟨dm, dr, db⟩ → fb = true) := by rw [hfb]; exact FF2
        clear FF2 hfb
        have H6 := Lib.hid (H5.out.quiet ((Chg.refl _ _).drewN n2))
        clear y0 y1 y2 d0 d1 d2 H5 SC SX SD e2
        generalize w8.drewN n2 = w9 at *
        obtain ⟨_, e2, y0, y1, y2⟩ := least_of_cells (show OwnW 3 w9 0 49 (.slice (some ⟨g, 0, none⟩) A.length pc) (A.map pvSlot) from H6.out.get 5 rfl).rd HX.out
        obtain rfl := (show g = _ by simpa using e2)
        dsimp only at y0 y1 y2
        go_upto_if 185 with fail
        go_cut [12] from 146 to 244 (fun s12 wx => ∃ so sc, s12 = .slice so (kept ⟨dm, dr, db⟩ A (t + 1)).length sc ∧ Hid (Side W wx [listT (.slice so (kept ⟨dm, dr, db⟩ A (t + 1)).length sc) (kept ⟨dm, dr, db⟩ A (t + 1)), ownT e8 (.slice vo vn vc) (ub db), blkT X 49 [.int .i64 (dm : Int), .int .i64 (dr : Int), .slice vo vn vc], C.T P (Lf.out ⟨dm, dr, db⟩ S) dr F, C.T P2 S2 7 G2, listT (.slice (some ⟨g, 0, none⟩) A.length pc) A, dataT A]))
        case first =>
          clear WX
          by_cases hs : Lf.same ⟨xm, xr, xb⟩ ⟨dm, dr, db⟩
          · have KE := Lib.hid (KO.out hs)
            obtain rfl : sb = true := by rw [hsb.out]; exact decide_eq_true hs
            clear hs FF3
            go_wp2_with fail
            go_meet
            exact ⟨qo, qc, by rw [KE.out], by rw [KE.out]; exact H6⟩
          · have KE := Lib.hid (KN.out hs)
            obtain rfl : sb = false := by rw [hsb.out]; exact decide_eq_false hs
            have OB := (show OwnW 3 w9 0 49 (.slice qo (kept ⟨dm, dr, db⟩ A t).length qc) ((kept ⟨dm, dr, db⟩ A t).map pvSlot) from H6.out.get 0 rfl)
            have OR : Hid (w9.ownsRow 0 49 3 (.slice qo (kept ⟨dm, dr, db⟩ A t).length qc) (kept ⟨dm, dr, db⟩ A t).length ((kept ⟨dm, dr, db⟩ A t).map pvSlot).flatten) := by have := OB.2; rw [List.length_map] at this; exact this
            have H7 : Hid (Side W (w9.alloc (.cells #[.int .i64 (xm : Int), .int .i64 (xr : Int), .slice xo xn xc] 49)) _) := H6.out.quiet ((Chg.refl _ _).alloc _)
            clear hs FF3 OB H6 KO KN
            generalize kept ⟨dm, dr, db⟩ A t = B at *
            generalize kept ⟨dm, dr, db⟩ A (t + 1) = B3 at *
            have KE2 := KE.out
            subst KE2
            go_wp2_with (at_builtin; refine wpList_append_three _ rfl (.tmp 186) (.tmp 191) 56 rfl 0 49 i0 (.agg #[.int .i64 0, .int .i64 0, .slice none 0 0]) 3 40 Try.underlying56 hi.out hz0.out hz1.out hz2.out rfl (by decide) _ B.length _ rfl (OR.out.alloc _) ⟨w9.heap.size, 0, none⟩ 1 1 [.int .i64 (xm : Int), .int .i64 (xr : Int), .slice xo xn xc] rfl rfl (three_new w9 (.int .i64 (xm : Int)) (.int .i64 (xr : Int)) (.slice xo xn xc) 49) (by simp [Value.oneCell']) B1.out B2.out (Nat.zero_le _) ?_; intro vr wn ol gr nb)
            have gr2 : World.grownBy _ wn (Value.slice qo B.length qc).ownBlock := gr.out
            have nb2 : vr.ownBlock = (Value.slice qo B.length qc).ownBlock ∨ _ := nb.out
            have CG : Hid (Chg (Value.slice qo B.length qc).ownBlock.toList (w9.alloc (.cells #[.int .i64 (xm : Int), .int .i64 (xr : Int), .slice xo xn xc] 49)) wn) := (Chg.refl _ _).grown gr2 (fun k hk => .inl (by rw [hk]; simp))
            have H8 := more_list (d := ⟨xm, xr, xb⟩) H7.out CG.out rfl ol.out (nb_of nb2 (Nat.le_refl _))
            obtain ⟨so, sc, hv⟩ := (show OwnW 3 wn 0 49 vr _ from H8.get 0 rfl).slice
            rw [List.length_map] at hv
            subst hv
            have H9 := Lib.hid H8
            clear H8 ol gr nb gr2 nb2 CG H7 OR
            go_meet
            exact ⟨so, sc, rfl, H9⟩
        case rest =>
          obtain ⟨so, sc, rfl, H7⟩ := hcut
          rename_i K3 aK3
          refine aK3 _ _ ?_
          clear y0 y1 y2 e2 H6 KN KO
          obtain ⟨_, e2, y0, y1, y2⟩ := least_of_cells (show OwnW 3 wc 0 49 (.slice (some ⟨g, 0, none⟩) A.length pc) (A.map pvSlot) from H7.out.get 5 rfl).rd HX.out
          obtain rfl := (show g = _ by simpa using e2)
          have d0 := (H7.out.get 2 rfl : Blk _ _ _ _).cell (j := 0) rfl
          have d1 := (H7.out.get 2 rfl : Blk _ _ _ _).cell (j := 1) rfl
          dsimp only at y0 y1 y2 WX
          clear y2 e2
          by_cases a : row ≤ xr
          · have b : row ≤ dr := by omega
            by_cases c : xr = dr
            · have f1 : (row : Int) ≤ (xr : Int) := by omega
              have f2 : decide ((dr : Int) < (row : Int)) = false := decide_eq_false (by omega)
              have f3 : decide (dr < row) = false := decide_eq_false (by omega)
              have f4 : (row : Int) ≤ (dr : Int) := by omega
              have k3 : decide ((xr : Int) < (dr : Int)) = false := decide_eq_false (by omega)
              have k4 : decide (xr < dr) = false := decide_eq_false (by omega)
              have k1 : ((xr : Int) == (dr : Int)) = true := by simp [c]
              have k5 : ¬ (xm : Int) < (dm : Int) := by omega
              refine stail_a2 (by kernel_rfl) wc _ g A.length pc X t row xm xr dm dr _ _ _ _ _ _ _ _ _ _ _ _ _ _ _ _ _ _ _ _ _ _ _ _ _ _ _ _ _ _ _ _ _ _ _ _ _ _ _ _ _ _ _ _ _ _ _ _ _ _ _ _ _ _ _ _ _ _ _ _ _ _ _ _ _ _ _ _ _ _ _ _ _ _ _ _ _ _ _ _ _ _ _ _ _ _ _ _ _ _ _ _ _ _ _ _ _ _ _ _ _ _ _ _ _ _ _ _ _ _ _ _ _ _ _ _ _ _ _ _ _ _ _ _ _ _ _ _ _ _ _ _ _ _ _ _ _ _ _ _ _ _ _ _ _ _ _ _ _ _ _ _ _ _ _ _ _ _ _ _ _ _ _ _ _ _ _ _ _ _ _ _ _ _ _ _ _ _ _ _ _ _ _ _ _ _ _ _ _ _ _ _ _ _ _ _ _ _ _ _ _ _ _ _ _ _ _ _ _ _ _ _ _ _ _ _ _ _ _ _ _ _ _ _ _ _ _ _ _ _ _ _ _ _ _ _ _ _ _ _ _ _ _ _ _ _ _ _ _ _ _ _ _ _ _ _ _ _ ht0 ht1 y0 y1 d0 d1 f1 f2 f3 f4 k3 k4 k1 k5 ?_
              clear WX
              intros
              go_wp2_with fail
              exact ⟨⟨t + 1, _, HT1.out, by rw [WT.out.2]; rfl, rfl, FF3, H7.out.quiet ((Chg.refl _ _).drewN _)⟩, by rw [WT.out.2]; exact MZ.out⟩
            · have f1 : (row : Int) ≤ (xr : Int) := by omega
              have f2 : decide ((dr : Int) < (row : Int)) = false := decide_eq_false (by omega)
              have f3 : decide (dr < row) = false := decide_eq_false (by omega)
              have f4 : (row : Int) ≤ (dr : Int) := by omega
              have k3 : decide ((xr : Int) < (dr : Int)) = false := decide_eq_false (by omega)
              have k4 : decide (xr < dr) = false := decide_eq_false (by omega)
              have k1 : ((xr : Int) == (dr : Int)) = false := by simp; omega
              refine stail_a1 (by kernel_rfl) wc _ g A.length pc X t row xm xr dm dr _ _ _ _ _ _ _ _ _ _ _ _ _ _ _ _ _ _ _ _ _ _ _ _ _ _ _ _ _ _ _ _ _ _ _ _ _ _ _ _ _ _ _ _ _ _ _ _ _ _ _ _ _ _ _ _ _ _ _ _ _ _ _ _ _ _ _ _ _ _ _ _ _ _ _ _ _ _ _ _ _ _ _ _ _ _ _ _ _ _ _ _ _ _ _ _ _ _ _ _ _ _ _ _ _ _ _ _ _ _ _ _ _ _ _ _ _ _ _ _ _ _ _ _ _ _ _ _ _ _ _ _ _ _ _ _ _ _ _ _ _ _ _ _ _ _ _ _ _ _ _ _ _ _ _ _ _ _ _ _ _ _ _ _ _ _ _ _ _ _ _ _ _ _ _ _ _ _ _ _ _ _ _ _ _ _ _ _ _ _ _ _ _ _ _ _ _ _ _ _ _ _ _ _ _ _ _ _ _ _ _ _ _ _ _ _ _ _ _ _ _ _ _ _ _ _ _ _ _ _ _ _ _ _ _ _ _ _ _ _ _ _ _ _ _ _ _ _ _ _ _ _ _ _ _ _ _ _ ht0 ht1 y0 y1 d0 d1 f1 f2 f3 f4 k3 k4 k1 ?_
              clear WX
              intros
              go_wp2_with fail
              exact ⟨⟨t + 1, _, HT1.out, by rw [WT.out.2]; rfl, rfl, FF3, H7.out.quiet ((Chg.refl _ _).drewN _)⟩, by rw [WT.out.2]; exact MZ.out⟩
          · by_cases b : row ≤ dr
            · have f1 : decide ((row : Int) ≤ (xr : Int)) = false := decide_eq_false (by omega)
              have f2 : decide (row ≤ xr) = false := decide_eq_false (by omega)
              have f4 : (row : Int) ≤ (dr : Int) := by omega
              refine stail_c (by kernel_rfl) wc _ g A.length pc X t row xm xr dm dr _ _ _ _ _ _ _ _ _ _ _ _ _ _ _ _ _ _ _ _ _ _ _ _ _ _ _ _ _ _ _ _ _ _ _ _ _ _ _ _ _ _ _ _ _ _ _ _ _ _ _ _ _ _ _ _ _ _ _ _ _ _ _ _ _ _ _ _ _ _ _ _ _ _ _ _ _ _ _ _ _ _ _ _ _ _ _ _ _ _ _ _ _ _ _ _ _ _ _ _ _ _ _ _ _ _ _ _ _ _ _ _ _ _ _ _ _ _ _ _ _ _ _ _ _ _ _ _ _ _ _ _ _ _ _ _ _ _ _ _ _ _ _ _ _ _ _ _ _ _ _ _ _ _ _ _ _ _ _ _ _ _ _ _ _ _ _ _ _ _ _ _ _ _ _ _ _ _ _ _ _ _ _ _ _ _ _ _ _ _ _ _ _ _ _ _ _ _ _ _ _ _ _ _ _ _ _ _ _ _ _ _ _ _ _ _ _ _ _ _ _ _ _ _ _ _ _ _ _ _ _ _ _ _ _ _ _ _ _ _ _ _ _ _ _ _ _ _ _ _ _ _ _ _ _ _ _ _ ht0 ht1 y0 y1 d0 d1 f1 f2 f4 ?_
              clear WX
              intros
              go_wp2_with fail
              exact ⟨⟨t + 1, _, HT1.out, by rw [WT.out.2]; rfl, rfl, FF3, H7.out.quiet ((Chg.refl _ _).drewN _)⟩, by rw [WT.out.2]; exact MZ.out⟩
            · by_cases c : xr = dr
              · have f1 : decide ((row : Int) ≤ (xr : Int)) = false := decide_eq_false (by omega)
                have f2 : decide (row ≤ xr) = false := decide_eq_false (by omega)
                have f3 : decide ((row : Int) ≤ (dr : Int)) = false := decide_eq_false (by omega)
                have f4 : decide (row ≤ dr) = false := decide_eq_false (by omega)
                have k3 : decide ((xr : Int) < (dr : Int)) = false := decide_eq_false (by omega)
                have k4 : decide (xr < dr) = false := decide_eq_false (by omega)
                have k1 : ((xr : Int) == (dr : Int)) = true := by simp [c]
                have k5 : ¬ (xm : Int) < (dm : Int) := by omega
                refine stail_b2 (by kernel_rfl) wc _ g A.length pc X t row xm xr dm dr _ _ _ _ _ _ _ _ _ _ _ _ _ _ _ _ _ _ _ _ _ _ _ _ _ _ _ _ _ _ _ _ _ _ _ _ _ _ _ _ _ _ _ _ _ _ _ _ _ _ _ _ _ _ _ _ _ _ _ _ _ _ _ _ _ _ _ _ _ _ _ _ _ _ _ _ _ _ _ _ _ _ _ _ _ _ _ _ _ _ _ _ _ _ _ _ _ _ _ _ _ _ _ _ _ _ _ _ _ _ _ _ _ _ _ _ _ _ _ _ _ _ _ _ _ _ _ _ _ _ _ _ _ _ _ _ _ _ _ _ _ _ _ _ _ _ _ _ _ _ _ _ _ _ _ _ _ _ _ _ _ _ _ _ _ _ _ _ _ _ _ _ _ _ _ _ _ _ _ _ _ _ _ _ _ _ _ _ _ _ _ _ _ _ _ _ _ _ _ _ _ _ _ _ _ _ _ _ _ _ _ _ _ _ _ _ _ _ _ _ _ _ _ _ _ _ _ _ _ _ _ _ _ _ _ _ _ _ _ _ _ _ _ _ _ _ _ _ _ _ _ _ _ _ _ _ _ _ ht0 ht1 y0 y1 d0 d1 f1 f2 f3 f4 k3 k4 k1 k5 ?_
                clear WX
                intros
                go_wp2_with fail
                exact ⟨⟨t + 1, _, HT1.out, by rw [WT.out.2]; rfl, rfl, FF3, H7.out.quiet ((Chg.refl _ _).drewN _)⟩, by rw [WT.out.2]; exact MZ.out⟩
              · have f1 : decide ((row : Int) ≤ (xr : Int)) = false := decide_eq_false (by omega)
                have f2 : decide (row ≤ xr) = false := decide_eq_false (by omega)
                have f3 : decide ((row : Int) ≤ (dr : Int)) = false := decide_eq_false (by omega)
                have f4 : decide (row ≤ dr) = false := decide_eq_false (by omega)
                have k3 : decide ((xr : Int) < (dr : Int)) = false := decide_eq_false (by omega)
                have k4 : decide (xr < dr) = false := decide_eq_false (by omega)
                have k1 : ((xr : Int) == (dr : Int)) = false := by simp; omega
                refine stail_b1 (by kernel_rfl) wc _ g A.length pc X t row xm xr dm dr _ _ _ _ _ _ _ _ _ _ _ _ _ _ _ _ _ _ _ _ _ _ _ _ _ _ _ _ _ _ _ _ _ _ _ _ _ _ _ _ _ _ _ _ _ _ _ _ _ _ _ _ _ _ _ _ _ _ _ _ _ _ _ _ _ _ _ _ _ _ _ _ _ _ _ _ _ _ _ _ _ _ _ _ _ _ _ _ _ _ _ _ _ _ _ _ _ _ _ _ _ _ _ _ _ _ _ _ _ _ _ _ _ _ _ _ _ _ _ _ _ _ _ _ _ _ _ _ _ _ _ _ _ _ _ _ _ _ _ _ _ _ _ _ _ _ _ _ _ _ _ _ _ _ _ _ _ _ _ _ _ _ _ _ _ _ _ _ _ _ _ _ _ _ _ _ _ _ _ _ _ _ _ _ _ _ _ _ _ _ _ _ _ _ _ _ _ _ _ _ _ _ _ _ _ _ _ _ _ _ _ _ _ _ _ _ _ _ _ _ _ _ _ _ _ _ _ _ _ _ _ _ _ _ _ _ _ _ _ _ _ _ _ _ _ _ _ _ _ _ _ _ _ _ _ _ _ _ ht0 ht1 y0 y1 d0 d1 f1 f2 f3 f4 k3 k4 k1 ?_
                clear WX
                intros
                go_wp2_with fail
                exact ⟨⟨t + 1, _, HT1.out, by rw [WT.out.2]; rfl, rfl, FF3, H7.out.quiet ((Chg.refl _ _).drewN _)⟩, by rw [WT.out.2]; exact MZ.out⟩

end Go.Proofs.Ytihmegpcbpdipaa
