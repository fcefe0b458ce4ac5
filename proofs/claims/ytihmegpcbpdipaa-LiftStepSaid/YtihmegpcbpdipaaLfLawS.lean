/-
  LiftStep, walked, against what the program's lift does. By an AI agent.
-/
import Derived.Test.YtihmegpcbpdipaaLfSmid
import Derived.Deep.RegionHeld3
import Derived.Deep.CutBlock
import Derived.Deep.DeepCutAuto
namespace Go.Proofs.Ytihmegpcbpdipaa
open Go.RowKit

set_option maxHeartbeats 8000000 in
set_option maxRecDepth 100000 in
theorem liftStep_walk (C : LiftCons) (v vt : Value) (ds : List PtD) (bs : List Bool) (W : World) (hd : Pts W v ds) (hb : RdV W vt (bs.map Value.bool)) : Calls Try.prog 6 #[v, vt] W (Holds W) := by
  obtain ⟨i0, hi, hz0, hz1, hz2⟩ := info_parts info_patch
  replace hi := Lib.hid hi
  replace hz0 := Lib.hid hz0
  replace hz1 := Lib.hid hz1
  replace hz2 := Lib.hid hz2
  obtain ⟨ao, vc, rfl⟩ := hd.slice
  obtain ⟨bo, bc, rfl⟩ := hb.slice
  rw [List.length_map] at hb ⊢
  have DS : Hid (∀ w', Chg [] W w' → Pts w' (.slice ao ds.length vc) ds) := fun w' c => hd.chg c
  have BS : Hid (∀ w', Chg [] W w' → RdV w' (.slice bo bs.length bc) (bs.map Value.bool)) := fun w' c => hb.chg c (by simp)
  clear hd hb
  go_enter Try.func6, Try.ntmps6
  go_wp2_with fail
  refine (C.new_ok 0 (by decide) W W [] (Side.nil (Chg.refl _ _))).mono ?_
  rintro e w1 ⟨P, F, rfl, H1⟩
  go_wp2_with fail
  refine (C.new_ok 7 (by decide) W w1 _ H1.out).mono ?_
  rintro e w2 ⟨P2, F2, rfl, H2⟩
  clear H1
  by_cases hn : 200 < ds.length
  · have h1 : (200 : Int) < ds.length := by omega
    go_wp2_with fail
    refine (known_any C w2).mono ?_
    rintro e w3 ⟨rfl, C1⟩
    go_wp2_with fail
    go_ret
    exact ⟨rfl, H2.out.chg.trans C1.out⟩
  have h1 : ¬ (200 : Int) < ds.length := by omega
  have HN : Hid (ds.length ≤ 200) := by show _ ≤ _; omega
  go_wp2_with fail
  refine (known_any C w2).mono ?_
  rintro e w3 ⟨rfl, C1⟩
  have H3 := Lib.hid (H2.out.quiet C1.out)
  clear C1 H2
  go_wp2_with fail
  have H0 : Hid (Side W w3 [C.T P [] 0 F, C.T P2 [] 7 F2, listT (.slice none 0 0) [], dataT []]) := by
    have h1 : Side W w3 [dataT [], C.T P2 [] 7 F2, C.T P [] 0 F] := H3.out.add (Chg.refl _ _) (Pool.nil _) (fun k hk => by simp [dataT, poolT, rowsOf] at hk)
    have h2 : Side W w3 [listT (.slice none 0 0) [], dataT [], C.T P2 [] 7 F2, C.T P [] 0 F] := h1.add (Chg.refl _ _) (OwnW.nil 3 _ 0 _) (fun k hk => by simp [listT, wideT, Value.ownBlock] at hk)
    exact (h2.front 2).front 3
  clear H3
  go_loopw [9, 10] (fun p i wr => ∃ (k : Nat) (A : List Pv) (S S2 : List Pd) (row : Nat) (G G2 : List Nat), k ≤ ds.length ∧ i = .int .i64 k ∧ Hid (Mk A k) ∧ Hid (∀ x, x ∈ dOf A ↔ x ∈ S) ∧ Hid (Lf.Srt S) ∧ Hid (Lf.Srt S2) ∧ Hid (S2.length ≤ k) ∧ Hid (Side W wr [C.T P S row G, C.T P2 S2 7 G2, listT p A, dataT A])) (fun p i _ => ds.length - (intOf i).toNat)
  case atStart => exact ⟨0, [], [], [], 0, F, F2, Nat.zero_le _, rfl, ⟨List.Pairwise.nil, Nat.le_refl _, fun p hp => by cases hp⟩, (fun x => by simp [dOf]), List.Pairwise.nil, List.Pairwise.nil, Nat.le_refl _, H0⟩
  case round =>
    obtain ⟨k, A, S, S2, row, G, G2, hk, rfl, MK, ME, SR, SR2, FE2, H⟩ := hrel
    clear H0
    obtain ⟨po, pc, hpv⟩ := (show OwnW 3 wr 0 49 u9 (A.map pvSlot) from H.out.get 2 rfl).slice
    rw [List.length_map] at hpv
    subst hpv
    have LS : Hid (S.length = A.length) := by
      have h := Lf.Apart.len SR.out.apart MK.out.apart (fun x => (ME.out x).symm)
      show _ = _
      rw [h]
      unfold dOf
      rw [List.length_map]
    by_cases hlt : k < ds.length
    case neg =>
      have hge : ¬ (k : Int) < ds.length := by omega
      clear hk hlt
      go_wp2_with fail
      go_ret
      exact ⟨rfl, H.out.chg⟩
    obtain ⟨⟨pm, pr, pv, pd⟩, hx⟩ : ∃ p, ds[k]? = some p := ⟨_, List.getElem?_eq_getElem hlt⟩
    have PCF : Hid (∀ w', Chg [] wr w' → ∃ vb vo, ao = some ⟨vb, vo, none⟩ ∧ w'.cell? ⟨vb, vo + k * 3, none⟩ = some (.int .i64 pm) ∧ w'.cell? ⟨vb, vo + k * 3 + 1, none⟩ = some (.int .i64 pr)) := fun w' c => by
      obtain ⟨vb, vo, e, _, I⟩ := (DS.out _ (H.out.chg.trans c)).at hx
      exact ⟨vb, vo, e, I.c0, I.c1⟩
    obtain ⟨vb, vo, rfl, c0, c1⟩ := PCF.out wr (Chg.refl _ _)
    have PC : Hid (∀ w', Chg [] wr w' → w'.cell? ⟨vb, vo + k * 3, none⟩ = some (.int .i64 pm) ∧ w'.cell? ⟨vb, vo + k * 3 + 1, none⟩ = some (.int .i64 pr)) := fun w' c => by
      obtain ⟨vb', vo', e, h0, h1⟩ := PCF.out w' c
      obtain ⟨rfl, rfl⟩ : vb = vb' ∧ vo = vo' := by simpa using e
      exact ⟨h0, h1⟩
    obtain ⟨M, eM0, eM, hM2⟩ : ∃ M : Nat, pm % 16 = (M : Int) ∧ Int.tmod (IntKind.u8.wrap pm) 16 = (M : Int) ∧ M ≤ 15 := by
      have e : IntKind.u8.wrap pm = pm % 256 := by simp [IntKind.wrap, IntKind.bits, IntKind.signed]
      refine ⟨(pm % 16).toNat, by omega, ?_, by omega⟩
      rw [e, Int.tmod_eq_emod_of_nonneg (by omega)]
      omega
    obtain ⟨R, hR⟩ : ∃ R : Nat, Int.tmod (IntKind.u16.wrap pr) 4096 = (R : Int) ∧ R ≤ 4095 := by
      have h : 0 ≤ IntKind.u16.wrap pr := by simp [IntKind.wrap, IntKind.bits, IntKind.signed]; omega
      obtain ⟨z, hz⟩ : ∃ z : Nat, IntKind.u16.wrap pr = z := ⟨_, (Int.toNat_of_nonneg h).symm⟩
      rw [hz]
      exact ⟨z % 4096, rfl, by omega⟩
    obtain ⟨eR, hR2⟩ := hR
    have HM := Lib.hid hM2
    have HR := Lib.hid hR2
    have w8 : IntKind.i64.wrap (IntKind.u8.wrap pm) = IntKind.u8.wrap pm := (wrap_in (by simp [IntKind.wrap, IntKind.bits, IntKind.signed]; omega) (by simp [IntKind.wrap, IntKind.bits, IntKind.signed]; omega)).1
    have w16 : IntKind.i64.wrap (IntKind.u16.wrap pr) = IntKind.u16.wrap pr := (wrap_in (by simp [IntKind.wrap, IntKind.bits, IntKind.signed]; omega) (by simp [IntKind.wrap, IntKind.bits, IntKind.signed]; omega)).1
    have HLT := Lib.hid hlt
    have hk0 : (0 : Int) ≤ k := Int.natCast_nonneg _
    have hk1 : (k : Int) < ds.length := by omega
    have wk8 : IntKind.u8.wrap (k : Int) = (k : Int) := by have := HN.out; simp [IntKind.wrap, IntKind.bits, IntKind.signed]; omega
    have HK : Hid (k ≤ 200) := by show _ ≤ _; have := HN.out; omega
    have ek : Int.tmod (k : Int) 4096 = (k : Int) := by
      rw [Int.tmod_eq_emod_of_nonneg (by omega)]
      have := HK.out
      omega
    have z0 : ¬ (4096 : Int) = 0 := by decide
    have PA := Lib.hid (fun w' => patch_any M R k w')
    clear hx hlt hk hM2 hR2 PCF
    go_upto_region 9 with fail
    go_cut [11] from 58 to 261 (fun s11 wx => ∃ X g, s11 = .pointer (some ⟨X, 0, none⟩) ∧ Hid (Side W wx [blkT X 49 [.int .i64 (M : Int), .int .i64 (R : Int), .slice (some ⟨g, 0, none⟩) 128 128], ownT 5 (.slice (some ⟨g, 0, none⟩) 128 128) (ub (full k)), C.T P S row G, C.T P2 S2 7 G2, listT (.slice po A.length pc) A, dataT A]))
    case first =>
      have CQ : Hid (Chg [] wr wr.drew) := (Chg.refl _ _).drewN 1
      have k0 := PC.out wr (Chg.refl _ _)
      have K1 := PC.out _ CQ.out
      have K2 := PC.out _ (CQ.out.alloc (.cells #[.int .i64 0, .int .i64 0, .slice none 0 0] 49))
      go_region_held3 (fun w' : World => w'.cell? ⟨vb, vo + k * 3, none⟩ = some (.int .i64 pm) ∧ w'.cell? ⟨vb, vo + k * 3 + 1, none⟩ = some (.int .i64 pr)) (first | exact k0 | exact K1 | exact K2 | exact PC.out _ CZ.out | exact PC.out _ (CZ.out.alloc _) | exact PC.out _ (((CZ.out.setCell (.inr (Nat.le_refl _)) _).setCell (.inr (Nat.le_refl _)) _).setCell (.inr (Nat.le_refl _)) _)) (first
        | (go_at_call 25; refine (PA.out _).mono ?_; rintro e5 w5 ⟨g, rfl, O, D⟩; have CZ : Hid (Chg [] wr w5) := (by first | exact CQ.out.trans D.out | exact (CQ.out.alloc _).trans D.out); try (have BX : Blk w5 wr.heap.size 49 [.int .i64 0, .int .i64 0, .slice none 0 0] := (Blk.made wr.drew [.int .i64 0, .int .i64 0, .slice none 0 0] 49).chg D.out (by simp); have x0 := BX.cell (j := 0) rfl; have x1 := BX.cell (j := 1) rfl; have x2 := BX.cell (j := 2) rfl; have f0 := BX.free 0; have f1 := BX.free 1; have f2 := BX.free 2)))
      all_goals first
        | (have H6 := Lib.hid (((H.out.quiet CQ.out).patch O.out D.out).boxed [.int .i64 (M : Int), .int .i64 (R : Int), .slice (some ⟨g, 0, none⟩) 128 128] 49)
           go_wp2_with fail
           go_meet
           exact ⟨_, g, rfl, H6⟩)
        | (have H5 := ((H.out.quiet CQ.out).boxed [.int .i64 0, .int .i64 0, .slice none 0 0] 49).patch O.out D.out
           have H6 := Lib.hid ((H5.turnAt 1 rfl (b := blkT wr.heap.size 49 [.int .i64 (M : Int), .int .i64 (R : Int), .slice (some ⟨g, 0, none⟩) 128 128]) (s := [wr.heap.size]) ((((Chg.refl [wr.heap.size] w5).setCell (p := ⟨wr.heap.size, 0, none⟩) (.inl (by simp)) (.int .i64 (M : Int))).setCell (p := ⟨wr.heap.size, 1, none⟩) (.inl (by simp)) (.int .i64 (R : Int))).setCell (p := ⟨wr.heap.size, 2, none⟩) (.inl (by simp)) (.slice (some ⟨g, 0, none⟩) 128 128)) (fun k hk => .inl hk) ((((H5.get 1 rfl : Blk _ _ _ _).set 0 _).set 1 _).set 2 _) (fun k hk => .inl hk)).front 1)
           go_wp2_with fail
           go_meet
           exact ⟨_, g, rfl, H6⟩)
    case rest =>
      obtain ⟨X, g, rfl, H4⟩ := hcut
      rename_i KK aKK
      refine aKK _ _ ?_
      clear H c0 c1 PC PA
      have HK2 : Hid (k < 200) := by show _ < _; have := HN.out; have := HLT.out; omega
      have HT : Hid (k + 1 ≤ ds.length) := HLT.out
      have WT := Lib.hid (wrap_in (z := (k : Int) + 1) (by have := HK2.out; omega) (by have := HK2.out; omega))
      have MZ : Hid (ds.length - (k + 1) < ds.length - k) := by show _ < _; have := HLT.out; omega
      refine step_mid (by kernel_rfl) C W wc _ k M R row P P2 X g pc bc po bo bs A S S2 G G2 _ _ _ _ _ _ _ _ _ _ _ _ _ _ _ _ _ _ _ _ _ _ _ _ _ _ _ _ _ _ _ _ _ _ _ _ _ _ _ _ _ _ _ _ _ _ _ _ _ _ _ _ _ _ _ _ _ _ _ _ _ _ _ _ _ _ _ _ _ _ _ _ _ _ _ _ _ _ _ _ _ _ _ _ _ _ _ _ _ _ _ _ _ _ _ _ _ _ _ _ _ _ _ _ _ _ _ _ _ _ _ _ _ _ _ _ _ _ _ _ _ _ _ _ _ _ _ _ _ _ _ _ _ _ _ _ _ _ _ _ _ _ _ _ _ _ _ _ _ _ _ _ _ _ _ _ _ _ _ _ _ _ _ _ _ _ _ _ _ _ _ _ _ _ _ _ _ _ _ _ _ _ _ _ _ _ _ _ _ _ _ _ _ _ _ _ _ _ _ _ _ _ _ _ _ _ _ _ _ _ _ _ _ _ _ _ _ _ _ _ _ _ _ _ _ _ _ _ _ _ _ _ _ _ _ _ _ _ _ _ _ _ _ _ _ _ _ _ _ _ _ _ _ _ _ _ HM HR HK2 MK ME SR SR2 FE2 BS H4 ?_
      intro e A' S' S2' row' G' G2' po' pc' w'
      intros
      rename_i he MK' ME' SR' SR2' FE' H'
      rcases he.out with rfl | rfl
      · go_wp2_with fail
        exact ⟨⟨k + 1, A', S', S2', row', G', G2', HT.out, by (try rw [WT.out.2]); rfl, MK', ME', SR', SR2', FE', H'⟩, by (try rw [WT.out.2]); exact MZ.out⟩
      · go_wp2_with fail
        exact ⟨⟨k + 1, A', S', S2', row', G', G2', HT.out, by (try rw [WT.out.2]); rfl, MK', ME', SR', SR2', FE', H'⟩, by (try rw [WT.out.2]); exact MZ.out⟩

end Go.Proofs.Ytihmegpcbpdipaa
