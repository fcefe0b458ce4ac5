/-
  LiftOrder, walked, against what the program's lift does. By an AI agent.
-/
import Derived.Test.YtihmegpcbpdipaaLfOrd
import Derived.Deep.RegionHeld3
import Derived.Deep.CutBlock
import Derived.Deep.DeepCutAuto
namespace Go.Proofs.Ytihmegpcbpdipaa
open Go.RowKit

set_option maxHeartbeats 8000000 in
set_option maxRecDepth 100000 in
theorem liftOrder_walk (C : LiftCons) (rw0 : Nat) (hrw : rw0 ≤ 65535) (v : Value) (ds : List PtD) (W : World) (hd : Pts W v ds) : Calls Try.prog 4 #[.int .u16 (rw0 : Int), v] W (Holds W) := by
  obtain ⟨i0, hi, hz0, hz1, hz2⟩ := info_parts info_patch
  replace hi := Lib.hid hi
  replace hz0 := Lib.hid hz0
  replace hz1 := Lib.hid hz1
  replace hz2 := Lib.hid hz2
  obtain ⟨row, hrow⟩ : ∃ row : Nat, row = rw0 % 4096 := ⟨_, rfl⟩
  have er : Int.tmod (rw0 : Int) 4096 = (row : Int) := by rw [hrow]; rfl
  have HR0 : Hid (row ≤ 4095) := by show _ ≤ _; omega
  have e16 : IntKind.i64.wrap (rw0 : Int) = (rw0 : Int) := (wrap_in (by omega) (by omega)).1
  obtain ⟨ao, vc, rfl⟩ := hd.slice
  have DS : Hid (∀ w', Chg [] W w' → Pts w' (.slice ao ds.length vc) ds) := fun w' c => hd.chg c
  clear hd hrw hrow
  go_enter Try.func4, Try.ntmps4
  go_wp2_with fail
  refine (C.new_ok row HR0.out W W [] (Side.nil (Chg.refl _ _))).mono ?_
  rintro e w1 ⟨P, F, rfl, H1⟩
  by_cases hn : 300 < ds.length
  · have h1 : (300 : Int) < ds.length := by omega
    go_wp2_with fail
    refine (known_any C w1).mono ?_
    rintro e w2 ⟨rfl, C1⟩
    go_wp2_with fail
    refine (known_any C w2).mono ?_
    rintro e w3 ⟨rfl, C2⟩
    go_wp2_with fail
    go_ret
    exact ⟨rfl, (H1.out.chg.trans C1.out).trans C2.out⟩
  have h1 : ¬ (300 : Int) < ds.length := by omega
  have HN : Hid (ds.length ≤ 300) := by show _ ≤ _; omega
  go_wp2_with fail
  refine (known_any C w1).mono ?_
  rintro e w2 ⟨rfl, C1⟩
  have H2 := Lib.hid (H1.out.quiet C1.out)
  clear C1 H1
  go_upto_block 0 with fail
  have H0 : Hid (Side W w2 [C.T P [] row F, listT (.slice none 0 0) [], dataT []]) := by
    have h1 : Side W w2 [dataT [], C.T P [] row F] := H2.out.add (Chg.refl _ _) (Pool.nil _) (fun k hk => by simp [dataT, poolT, rowsOf] at hk)
    have h2 : Side W w2 [listT (.slice none 0 0) [], dataT [], C.T P [] row F] := h1.add (Chg.refl _ _) (OwnW.nil 3 _ 0 _) (fun k hk => by simp [listT, wideT, Value.ownBlock] at hk)
    exact h2.front 2
  clear H2
  go_cut [8] from 9 (fun s8 wx => ∃ (A : List Pv) (S : List Pd) (G : List Nat) (po : Option Addr) (pc : Nat), s8 = .slice po A.length pc ∧ Hid (∀ x, x ∈ dOf A ↔ x ∈ S) ∧ Hid (Lf.Srt S) ∧ Hid (S.length = A.length) ∧ Hid (A.length ≤ 300) ∧ Hid (∀ p ∈ A, p.1.m ≤ 15 ∧ p.1.r ≤ 4095 ∧ p.1.bs.length = 128 ∧ By (ints p.1.bs)) ∧ Hid (Few S) ∧ Hid (Side W wx [C.T P S row G, listT (.slice po A.length pc) A, dataT A]))
  case first =>
    go_wp2_with fail
    go_loopw [8, 9] (fun p i wr => ∃ (k : Nat) (A : List Pv) (S : List Pd) (G : List Nat), k ≤ ds.length ∧ i = .int .i64 k ∧ Hid (Mk A k) ∧ Hid (∀ x, x ∈ dOf A ↔ x ∈ S) ∧ Hid (Lf.Srt S) ∧ Hid (Side W wr [C.T P S row G, listT p A, dataT A])) (fun p i _ => ds.length - (intOf i).toNat)
    case atStart => exact ⟨0, [], [], F, Nat.zero_le _, rfl, ⟨List.Pairwise.nil, Nat.le_refl _, fun p hp => by cases hp⟩, (fun x => by simp [dOf]), List.Pairwise.nil, H0⟩
    case round =>
      obtain ⟨k, A, S, G, hk, rfl, MK, ME, SR, H⟩ := hrel
      clear H0
      have OA := Lib.hid (show OwnW 3 wr 0 49 u8 (A.map pvSlot) from H.out.get 1 rfl)
      obtain ⟨po, pc, hpv⟩ := OA.out.slice
      rw [List.length_map] at hpv
      subst hpv
      have LS : Hid (S.length = A.length) := by
        have h := Lf.Apart.len SR.out.apart MK.out.apart (fun x => (ME.out x).symm)
        show _ = _
        rw [h]
        unfold dOf
        rw [List.length_map]
      by_cases hlt : k < ds.length
      case neg =>
        have hge : ¬ (k : Int) < ds.length := by omega
        have LA : Hid (A.length ≤ 300) := by show _ ≤ _; have := MK.out.few; have := HN.out; omega
        have EA : Hid (∀ p ∈ A, p.1.m ≤ 15 ∧ p.1.r ≤ 4095 ∧ p.1.bs.length = 128 ∧ By (ints p.1.bs)) := MK.out.each
        have FW : Hid (Few S) := by show S.length ≤ 100000; have := LS.out; have := LA.out; omega
        clear MK OA hk hlt
        go_wp2_with fail
        go_meet
        exact ⟨A, S, G, po, pc, rfl, ME, SR, LS, LA, EA, FW, H⟩
      obtain ⟨⟨pm, pr, pv, pd⟩, hx⟩ : ∃ p, ds[k]? = some p := ⟨_, List.getElem?_eq_getElem hlt⟩
      obtain ⟨vb, vo, rfl, hvb, I⟩ := (DS.out _ H.out.chg).at hx
      obtain ⟨M, eM0, eM, hM2⟩ : ∃ M : Nat, pm % 16 = (M : Int) ∧ Int.tmod (IntKind.u8.wrap pm) 16 = (M : Int) ∧ M ≤ 15 := by
        have e : IntKind.u8.wrap pm = pm % 256 := by simp [IntKind.wrap, IntKind.bits, IntKind.signed]
        refine ⟨(pm % 16).toNat, by omega, ?_, by omega⟩
        rw [e, Int.tmod_eq_emod_of_nonneg (by omega)]
        omega
      obtain ⟨R, hR⟩ : ∃ R : Nat, Int.tmod (IntKind.u16.wrap pr) 4096 = (R : Int) ∧ R ≤ 4095 := by
        have h : 0 ≤ IntKind.u16.wrap pr := by simp [IntKind.wrap, IntKind.bits, IntKind.signed]; omega
        obtain ⟨z, hz⟩ : ∃ z : Nat, IntKind.u16.wrap pr = z := ⟨_, (Int.toNat_of_nonneg h).symm⟩
        rw [hz]
        exact ⟨z % 4096, rfl, by omega⟩
      obtain ⟨eR, hR2⟩ := hR
      have HM := Lib.hid hM2
      have HR := Lib.hid hR2
      have w8 : IntKind.i64.wrap (IntKind.u8.wrap pm) = IntKind.u8.wrap pm := (wrap_in (by simp [IntKind.wrap, IntKind.bits, IntKind.signed]; omega) (by simp [IntKind.wrap, IntKind.bits, IntKind.signed]; omega)).1
      have w16 : IntKind.i64.wrap (IntKind.u16.wrap pr) = IntKind.u16.wrap pr := (wrap_in (by simp [IntKind.wrap, IntKind.bits, IntKind.signed]; omega) (by simp [IntKind.wrap, IntKind.bits, IntKind.signed]; omega)).1
      have c0 := I.c0
      have c1 := I.c1
      dsimp only at c0 c1
      have HLT := Lib.hid hlt
      have hk0 : (0 : Int) ≤ k := Int.natCast_nonneg _
      have hk1 : (k : Int) < ds.length := by omega
      obtain ⟨K, hK⟩ : ∃ K, K = k % 256 := ⟨_, rfl⟩
      have wk8 : IntKind.u8.wrap (k : Int) = (K : Int) := by rw [hK]; simp [IntKind.wrap, IntKind.bits, IntKind.signed]
      have HK : Hid (K ≤ 255) := by show _ ≤ _; omega
      clear hx I hvb hlt hk hM2 hR2 hK
      go_wp2_with fail
      refine (patch_any M R K _).mono ?_
      rintro e w3 ⟨g, rfl, O, D⟩
      have H3 := Lib.hid (H.out.patch O.out D.out)
      clear OA H O D c0 c1
      have H4 := Lib.hid (H3.out.boxed [.int .i64 (M : Int), .int .i64 (R : Int), .slice (some ⟨g, 0, none⟩) 128 128] 49)
      obtain ⟨X, hX⟩ : ∃ X, X = w3.heap.size := ⟨_, rfl⟩
      rw [← hX] at H4
      replace hX := Lib.hid hX
      clear H3
      have FW : Hid (Few S) := by show S.length ≤ 100000; have := LS.out; have := MK.out.few; have := HN.out; have := HLT.out; omega
      have BF : Hid (By (ints (full K))) := full_by K HK.out
      go_upto_region 12 with fail
      rw [← hX.out]
      generalize hW4 : w3.alloc (.cells [Value.int .i64 (M : Int), .int .i64 (R : Int), .slice (some ⟨g, 0, none⟩) 128 128].toArray 49) = w4 at *
      replace hW4 := Lib.hid hW4
      have x0 := (H4.out.get 0 rfl : Blk _ _ _ _).cell (j := 0) rfl
      have x1 := (H4.out.get 0 rfl : Blk _ _ _ _).cell (j := 1) rfl
      have x2 := (H4.out.get 0 rfl : Blk _ _ _ _).cell (j := 2) rfl
      have PT := Lib.hid (C.put_ok W w4 _ P row S G ⟨M, R, full K⟩ (.slice (some ⟨g, 0, none⟩) 128 128) HM.out HR.out (full_len K) (H4.out.sl 1 rfl) BF.out (fun b hb hm => H4.out.offAt 1 2 rfl rfl (by decide) b (by simpa [ownT] using hb) hm) SR.out FW.out (H4.out.front 2))
      go_wp2_with fail
      clear x0 x1 x2
      refine PT.out.mono ?_
      rintro e w5 ⟨rfl, G5, H5⟩
      clear PT H4
      go_wp2_with fail
      have H6 : Hid (Side W w5 [listT (.slice none 0 0) (kept ⟨M, R, full K⟩ A 0), C.T P (Lf.ins ⟨M, R, full K⟩ S) row G5, blkT X 49 [.int .i64 (M : Int), .int .i64 (R : Int), .slice (some ⟨g, 0, none⟩) 128 128], ownT 5 (.slice (some ⟨g, 0, none⟩) 128 128) (ub (full K)), listT (.slice po A.length pc) A, dataT A]) :=
        H5.out.add (Chg.refl _ _) (OwnW.nil 3 _ 0 _) (fun k hk => by simp [listT, wideT, Value.ownBlock] at hk)
      clear H5
      have LK : Hid (A.length ≤ 300) := by show _ ≤ _; have := MK.out.few; have := HN.out; have := HLT.out; omega
      go_loopw [14, 15] (fun q j w6 => ∃ t : Nat, t ≤ A.length ∧ j = .int .i64 t ∧ Hid (Side W w6 [listT q (kept ⟨M, R, full K⟩ A t), C.T P (Lf.ins ⟨M, R, full K⟩ S) row G5, blkT X 49 [.int .i64 (M : Int), .int .i64 (R : Int), .slice (some ⟨g, 0, none⟩) 128 128], ownT 5 (.slice (some ⟨g, 0, none⟩) 128 128) (ub (full K)), listT (.slice po A.length pc) A, dataT A])) (fun q j _ => A.length - (intOf j).toNat)
      case atStart => exact ⟨0, Nat.zero_le _, rfl, H6⟩
      case round =>
        obtain ⟨t, ht, rfl, H⟩ := hrel
        clear H6
        have OB := Lib.hid (show OwnW 3 wr 0 49 u14 ((kept ⟨M, R, full K⟩ A t).map pvSlot) from H.out.get 0 rfl)
        obtain ⟨qo, qc, hqv⟩ := OB.out.slice
        rw [List.length_map] at hqv
        subst hqv
        have KL := Lib.hid (kept_len ⟨M, R, full K⟩ A t)
        have OR : Hid (wr.ownsRow 0 49 3 (.slice qo (kept ⟨M, R, full K⟩ A t).length qc) (kept ⟨M, R, full K⟩ A t).length ((kept ⟨M, R, full K⟩ A t).map pvSlot).flatten) := by have := OB.out.2; rw [List.length_map] at this; exact this
        clear OB
        have WT := Lib.hid (wrap_in (z := (t : Int) + 1) (by have := LK.out; omega) (by have := LK.out; omega))
        by_cases htl : t < A.length
        case neg =>
          have hge : ¬ (t : Int) < A.length := by omega
          obtain rfl : t = A.length := by omega
          have x0 := (H.out.get 2 rfl : Blk _ _ _ _).cell (j := 0) rfl
          have x1 := (H.out.get 2 rfl : Blk _ _ _ _).cell (j := 1) rfl
          have x2 := (H.out.get 2 rfl : Blk _ _ _ _).cell (j := 2) rfl
          have B1 : Hid ((kept ⟨M, R, full K⟩ A A.length).length + 1 ≤ maxLen) := by have := KL.out; have := LK.out; show _ ≤ _; unfold maxLen; omega
          have B2 : Hid (((kept ⟨M, R, full K⟩ A A.length).length + 1) * 40 ≤ 140737488355328) := by have := KL.out; have := LK.out; show _ ≤ _; omega
          have H7 : Hid (Side W (wr.alloc (.cells #[.int .i64 (M : Int), .int .i64 (R : Int), .slice (some ⟨g, 0, none⟩) 128 128] 49)) _) := H.out.quiet ((Chg.refl _ _).alloc _)
          have MK2 : ∀ v, Hid (Mk (kept ⟨M, R, full K⟩ A A.length ++ [(⟨M, R, full K⟩, v)]) (k + 1)) := fun v => MK.out.put HM.out HR.out (full_len _) BF.out
          have ME2 : ∀ v, Hid (∀ x, x ∈ dOf (kept ⟨M, R, full K⟩ A A.length ++ [(⟨M, R, full K⟩, v)]) ↔ x ∈ Lf.ins ⟨M, R, full K⟩ S) := fun v => put_mem SR.out ME.out
          have KS := Lib.hid (kept_sub ⟨M, R, full K⟩ A A.length)
          clear H ht htl
          generalize kept ⟨M, R, full K⟩ A A.length = B at *
          go_wp2_with (at_builtin; refine wpList_append_three _ rfl (.tmp 111) (.tmp 113) 56 rfl 0 49 i0 (.agg #[.int .i64 0, .int .i64 0, .slice none 0 0]) 3 40 Try.underlying56 hi.out hz0.out hz1.out hz2.out rfl (by decide) _ B.length _ rfl (OR.out.alloc _) ⟨wr.heap.size, 0, none⟩ 1 1 [.int .i64 (M : Int), .int .i64 (R : Int), .slice (some ⟨g, 0, none⟩) 128 128] rfl rfl (three_new wr (.int .i64 (M : Int)) (.int .i64 (R : Int)) (.slice (some ⟨g, 0, none⟩) 128 128) 49) (by simp [Value.oneCell']) B1.out B2.out (Nat.zero_le _) ?_; intro vn wn ol gr nb)
          have gr2 : World.grownBy _ wn (Value.slice qo B.length qc).ownBlock := gr.out
          have nb2 : vn.ownBlock = (Value.slice qo B.length qc).ownBlock ∨ _ := nb.out
          have CG : Hid (Chg (Value.slice qo B.length qc).ownBlock.toList (wr.alloc (.cells #[.int .i64 (M : Int), .int .i64 (R : Int), .slice (some ⟨g, 0, none⟩) 128 128] 49)) wn) := (Chg.refl _ _).grown gr2 (fun k hk => .inl (by rw [hk]; simp))
          have H8 := more_list (d := ⟨M, R, full K⟩) H7.out CG.out rfl ol.out (nb_of nb2 (Nat.le_refl _))
          have H9 : Side W wn [dataT B, listT vn (B ++ [(⟨M, R, full K⟩, .slice (some ⟨g, 0, none⟩) 128 128)]), C.T P (Lf.ins ⟨M, R, full K⟩ S) row G5, blkT X 49 [.int .i64 (M : Int), .int .i64 (R : Int), .slice (some ⟨g, 0, none⟩) 128 128], ownT 5 (.slice (some ⟨g, 0, none⟩) 128 128) (ub (full K)), listT (.slice po A.length pc) A] := (H8.front 5).subData KS.out
          have H10 : Side W wn [dataT (B ++ [(⟨M, R, full K⟩, .slice (some ⟨g, 0, none⟩) 128 128)]), listT vn (B ++ [(⟨M, R, full K⟩, .slice (some ⟨g, 0, none⟩) 128 128)]), C.T P (Lf.ins ⟨M, R, full K⟩ S) row G5, blkT X 49 [.int .i64 (M : Int), .int .i64 (R : Int), .slice (some ⟨g, 0, none⟩) 128 128], listT (.slice po A.length pc) A] := by
            unfold dataT
            rw [List.map_append]
            exact (H9.front 4).pool
          have H11 := Lib.hid (((((H10.front 4).tail).front 3).tail.front 1).front 2)
          exact ⟨⟨k + 1, _, _, G5, by have := HLT.out; omega, rfl, MK2 _, ME2 _, Lf.srt_ins SR.out, H11⟩, by have := HLT.out; simp [intOf]; omega⟩
        obtain ⟨x, hx⟩ : ∃ x, A[t]? = some x := ⟨_, List.getElem?_eq_getElem htl⟩
        have HX := Lib.hid hx
        obtain ⟨g2, e2, d0, d1, d2⟩ := least_of_cells (show OwnW 3 wr 0 49 (.slice po A.length pc) (A.map pvSlot) from H.out.get 4 rfl).rd hx
        subst e2
        have HTL := Lib.hid htl
        have ht0 : (0 : Int) ≤ t := Int.natCast_nonneg _
        have ht1 : (t : Int) < A.length := by omega
        obtain ⟨xo, xn, xc, hxv⟩ := (show Pool wr (A.map pvRow) from H.out.get 5 rfl).ok x (List.mem_of_getElem? hx)
        have KN : Hid (¬ Lf.same x.1 ⟨M, R, full K⟩ → kept ⟨M, R, full K⟩ A (t + 1) = kept ⟨M, R, full K⟩ A t ++ [x]) := fun h => by rw [kept_step hx, if_neg h]
        have KO : Hid (Lf.same x.1 ⟨M, R, full K⟩ → kept ⟨M, R, full K⟩ A (t + 1) = kept ⟨M, R, full K⟩ A t) := fun h => by rw [kept_step hx, if_pos h]
        clear htl hx ht
        obtain ⟨⟨xm, xr, xb⟩, xv⟩ := x
        dsimp only at d0 d1 d2 hxv KN KO
        subst hxv
        have B1 : Hid ((kept ⟨M, R, full K⟩ A t).length + 1 ≤ maxLen) := by have := KL.out; have := LK.out; have := HTL.out; show _ ≤ _; unfold maxLen; omega
        have B2 : Hid (((kept ⟨M, R, full K⟩ A t).length + 1) * 40 ≤ 140737488355328) := by have := KL.out; have := LK.out; have := HTL.out; show _ ≤ _; omega
        by_cases c1 : xm = M
        · have e1 : ((xm : Int) != (M : Int)) = false := by simp [c1]
          by_cases c2 : xr = R
          · have e2 : ((xr : Int) != (R : Int)) = false := by simp [c2]
            have KE := Lib.hid (KO.out ⟨c1, c2⟩)
            clear c1 c2 KN KO
            go_wp2_with fail
            exact ⟨⟨t + 1, by have := HTL.out; omega, by rw [WT.out.2]; rfl, by rw [KE.out]; exact H⟩, by have := HTL.out; rw [WT.out.2]; simp [intOf]; omega⟩
          · have e2 : ((xr : Int) != (R : Int)) = true := by simp; omega
            have SM : Hid (¬ Lf.same ⟨xm, xr, xb⟩ ⟨M, R, full K⟩) := fun h => c2 h.2
            have H7 : Hid (Side W (wr.alloc (.cells #[.int .i64 (xm : Int), .int .i64 (xr : Int), .slice xo xn xc] 49)) _) := H.out.quiet ((Chg.refl _ _).alloc _)
            clear c1 c2 H
            replace KN : Hid (kept ⟨M, R, full K⟩ A (t + 1) = kept ⟨M, R, full K⟩ A t ++ [(⟨xm, xr, xb⟩, .slice xo xn xc)]) := KN.out SM.out
            generalize kept ⟨M, R, full K⟩ A t = B at *
            go_wp2_with (at_builtin; refine wpList_append_three _ rfl (.tmp 104) (.tmp 109) 56 rfl 0 49 i0 (.agg #[.int .i64 0, .int .i64 0, .slice none 0 0]) 3 40 Try.underlying56 hi.out hz0.out hz1.out hz2.out rfl (by decide) _ B.length _ rfl (OR.out.alloc _) ⟨wr.heap.size, 0, none⟩ 1 1 [.int .i64 (xm : Int), .int .i64 (xr : Int), .slice xo xn xc] rfl rfl (three_new wr (.int .i64 (xm : Int)) (.int .i64 (xr : Int)) (.slice xo xn xc) 49) (by simp [Value.oneCell']) B1.out B2.out (Nat.zero_le _) ?_; intro vn wn ol gr nb)
            have gr2 : World.grownBy _ wn (Value.slice qo B.length qc).ownBlock := gr.out
            have nb2 : vn.ownBlock = (Value.slice qo B.length qc).ownBlock ∨ _ := nb.out
            have CG : Hid (Chg (Value.slice qo B.length qc).ownBlock.toList (wr.alloc (.cells #[.int .i64 (xm : Int), .int .i64 (xr : Int), .slice xo xn xc] 49)) wn) := (Chg.refl _ _).grown gr2 (fun k hk => .inl (by rw [hk]; simp))
            have H8 := Lib.hid (more_list (d := ⟨xm, xr, xb⟩) H7.out CG.out rfl ol.out (nb_of nb2 (Nat.le_refl _)))
            exact ⟨⟨t + 1, by have := HTL.out; omega, by rw [WT.out.2]; rfl, by rw [KN.out]; exact H8⟩, by have := HTL.out; rw [WT.out.2]; simp [intOf]; omega⟩

        · have e1 : ((xm : Int) != (M : Int)) = true := by simp; omega
          have SM : Hid (¬ Lf.same ⟨xm, xr, xb⟩ ⟨M, R, full K⟩) := fun h => c1 h.1
          have H7 : Hid (Side W (wr.alloc (.cells #[.int .i64 (xm : Int), .int .i64 (xr : Int), .slice xo xn xc] 49)) _) := H.out.quiet ((Chg.refl _ _).alloc _)
          clear c1 H
          replace KN : Hid (kept ⟨M, R, full K⟩ A (t + 1) = kept ⟨M, R, full K⟩ A t ++ [(⟨xm, xr, xb⟩, .slice xo xn xc)]) := KN.out SM.out
          generalize kept ⟨M, R, full K⟩ A t = B at *
          go_wp2_with (at_builtin; refine wpList_append_three _ rfl (.tmp 104) (.tmp 109) 56 rfl 0 49 i0 (.agg #[.int .i64 0, .int .i64 0, .slice none 0 0]) 3 40 Try.underlying56 hi.out hz0.out hz1.out hz2.out rfl (by decide) _ B.length _ rfl (OR.out.alloc _) ⟨wr.heap.size, 0, none⟩ 1 1 [.int .i64 (xm : Int), .int .i64 (xr : Int), .slice xo xn xc] rfl rfl (three_new wr (.int .i64 (xm : Int)) (.int .i64 (xr : Int)) (.slice xo xn xc) 49) (by simp [Value.oneCell']) B1.out B2.out (Nat.zero_le _) ?_; intro vn wn ol gr nb)
          have gr2 : World.grownBy _ wn (Value.slice qo B.length qc).ownBlock := gr.out
          have nb2 : vn.ownBlock = (Value.slice qo B.length qc).ownBlock ∨ _ := nb.out
          have CG : Hid (Chg (Value.slice qo B.length qc).ownBlock.toList (wr.alloc (.cells #[.int .i64 (xm : Int), .int .i64 (xr : Int), .slice xo xn xc] 49)) wn) := (Chg.refl _ _).grown gr2 (fun k hk => .inl (by rw [hk]; simp))
          have H8 := Lib.hid (more_list (d := ⟨xm, xr, xb⟩) H7.out CG.out rfl ol.out (nb_of nb2 (Nat.le_refl _)))
          exact ⟨⟨t + 1, by have := HTL.out; omega, by rw [WT.out.2]; rfl, by rw [KN.out]; exact H8⟩, by have := HTL.out; rw [WT.out.2]; simp [intOf]; omega⟩
  case rest =>
    obtain ⟨A, S, G, po, pc, rfl, ME, SR, LS, LA, EA, FW, H⟩ := hcut
    rename_i KK aKK
    refine aKK _ _ ?_
    exact order_rest (by kernel_rfl) C W wc row P pc po A S G _ _ _ _ _ _ _ _ _ _ _ _ _ _ _ _ _ _ _ _ _ _ _ _ _ _ _ _ _ _ _ _ _ _ _ _ _ _ _ _ _ _ _ _ _ _ _ _ _ _ _ _ _ _ _ _ _ _ _ _ _ _ _ _ _ _ _ _ _ _ _ _ _ _ _ _ _ _ _ _ _ _ _ _ _ _ _ _ _ _ _ _ _ _ _ _ _ _ _ _ _ _ _ _ _ _ _ _ _ _ _ _ _ _ _ _ _ _ _ _ _ _ _ _ _ _ _ _ _ _ _ _ _ _ _ _ _ _ _ _ _ _ _ _ _ _ _ _ _ _ _ _ _ _ _ _ _ _ _ _ _ _ _ _ _ _ _ _ _ _ _ _ _ _ _ _ _ _ _ _ _ _ _ _ _ _ _ _ _ _ _ _ _ _ _ _ _ _ _ _ _ _ _ _ _ _ _ _ _ _ _ _ _ _ _ _ _ _ _ _ _ _ _ _ _ _ _ _ _ _ _ _ _ _ _ _ _ _ _ _ _ _ _ _ _ _ _ _ _ _ _ _ _ _ _ _ _ _ _ _ _ _ _ _ _ _ _ _ _ _ _ _ ME SR LS LA EA FW H

end Go.Proofs.Ytihmegpcbpdipaa
