/-
  LiftAny, walked, against what the program's lift does. By an AI agent.
-/
import Derived.Test.YtihmegpcbpdipaaLfLawD
import Derived.Test.YtihmegpcbpdipaaLfFold
import Derived.Test.YtihmegpcbpdipaaGInPts
namespace Go.Proofs.Ytihmegpcbpdipaa
open Go.RowKit

/-- The law's own patches: no two of a place. -/
structure Mk (A : List Pv) (k : Nat) : Prop where
  apart : Lf.Apart (dOf A)
  few : A.length ≤ k
  each : ∀ p ∈ A, p.1.m ≤ 15 ∧ p.1.r ≤ 4095 ∧ p.1.bs.length = 128 ∧ By (ints p.1.bs)

/-- Whether one of them has this place. -/
def hasAt (l : List Pd) (m r : Nat) : Bool := l.any fun p => decide (p.m = m ∧ p.r = r)

theorem hasAt_snoc (l : List Pd) (d : Pd) (m r : Nat) : hasAt (l ++ [d]) m r = (hasAt l m r || decide (d.m = m ∧ d.r = r)) := by
  simp [hasAt]

theorem hasAt_take {l : List Pd} {t : Nat} {d : Pd} (h : l[t]? = some d) (m r : Nat) : hasAt (l.take (t + 1)) m r = (hasAt (l.take t) m r || decide (d.m = m ∧ d.r = r)) := by
  obtain ⟨h1, rfl⟩ := List.getElem?_eq_some_iff.1 h
  rw [List.take_succ_eq_append_getElem h1, hasAt_snoc]

theorem Mk.more {A : List Pv} {k : Nat} (h : Mk A k) {d : Pd} {v : Value} (hm : d.m ≤ 15) (hr : d.r ≤ 4095) (hb : d.bs.length = 128) (hy : By (ints d.bs)) (hn : hasAt (dOf A) d.m d.r = false) : Mk (A ++ [(d, v)]) (k + 1) := by
  refine ⟨?_, by rw [List.length_append, List.length_singleton]; have := h.few; omega, fun p hp => ?_⟩
  · unfold dOf
    rw [List.map_append]
    refine List.pairwise_append.2 ⟨h.apart, List.pairwise_singleton _ _, fun x hx y hy hs => ?_⟩
    obtain rfl : y = d := by simpa using hy
    have h2 : hasAt (dOf A) y.m y.r = true := List.any_eq_true.2 ⟨x, hx, decide_eq_true hs⟩
    rw [h2] at hn
    cases hn
  · rcases List.mem_append.1 hp with hp | hp
    · exact h.each p hp
    · rw [List.mem_singleton.1 hp]
      exact ⟨hm, hr, hb, hy⟩

theorem Mk.up {A : List Pv} {k : Nat} (h : Mk A k) : Mk A (k + 1) := ⟨h.apart, Nat.le_succ_of_le h.few, h.each⟩

/-- One patch more in the law's list. -/
theorem gather0 {w0 w1 wn : World} {ts : List Thing} {n : Nat} {v bv vn : Value} {A : List Pv} {d : Pd} {e8 : TypeId} (h : Side w0 w1 (ownT e8 bv (ub d.bs) :: listT v A :: dataT A :: ts))
    (c : Chg v.ownBlock.toList w1 wn) (hn : n = A.length + 1) (ol : wn.ownsRow 0 49 3 vn n ((A.map pvSlot).flatten ++ [.int .i64 (d.m : Int), .int .i64 (d.r : Int), bv])) (nb : ∀ k, vn.ownBlock = some k → v.ownBlock = some k ∨ w1.heap.size ≤ k) :
    Side w0 wn (listT vn (A ++ [(d, bv)]) :: dataT (A ++ [(d, bv)]) :: ts) := by
  have h1 : Side w0 w1 (listT v A :: ownT e8 bv (ub d.bs) :: dataT A :: ts) := h.front 1
  have h2 : Side w0 wn (listT vn (A ++ [(d, bv)]) :: ownT e8 bv (ub d.bs) :: dataT A :: ts) := by
    refine h1.turn c (fun k hk => .inl hk) (⟨pv_slots _, ?_⟩ : OwnW 3 wn 0 49 vn ((A ++ [(d, bv)]).map pvSlot)) (fun k hk => ?_)
    · have e : ((A ++ [(d, bv)]).map pvSlot).flatten = (A.map pvSlot).flatten ++ [.int .i64 (d.m : Int), .int .i64 (d.r : Int), bv] := by
        rw [flat_append3]
        rfl
      rw [e, List.length_map, List.length_append, List.length_singleton, ← hn]
      exact ol
    · have hk' : vn.ownBlock = some k := by simpa [listT, wideT] using hk
      rcases nb k hk' with q | q
      · exact .inl (by show k ∈ v.ownBlock.toList; simp [q])
      · exact .inr q
  have h3 : Side w0 wn (ownT e8 bv (ub d.bs) :: dataT A :: listT vn (A ++ [(d, bv)]) :: ts) := (h2.front 2).front 2
  have h4 : Side w0 wn (dataT (A ++ [(d, bv)]) :: listT vn (A ++ [(d, bv)]) :: ts) := by
    unfold dataT
    rw [List.map_append]
    exact h3.pool
  exact h4.front 1

theorem foldl_len : ∀ (l S : List Pd), (l.foldl (fun S p => Lf.ins p S) S).length ≤ S.length + l.length
  | [], S => Nat.le_refl _
  | p :: l, S => by
    have h1 := foldl_len l (Lf.ins p S)
    have h2 := few_ins (d := p) (S := S)
    show (l.foldl (fun S p => Lf.ins p S) (Lf.ins p S)).length ≤ _
    rw [List.length_cons]
    omega

theorem fold_few (l : List Pd) : (Lf.fold l).length ≤ l.length := by
  have := foldl_len l []
  simpa [Lf.fold] using this

theorem fold_take {l : List Pd} {k : Nat} {d : Pd} (h : l[k]? = some d) : Lf.fold (l.take (k + 1)) = Lf.ins d (Lf.fold (l.take k)) := by
  obtain ⟨h1, rfl⟩ := List.getElem?_eq_some_iff.1 h
  rw [List.take_succ_eq_append_getElem h1, Lf.fold_snoc]

theorem data_sl {w0 w : World} {ts : List Thing} {A : List Pv} (h : Side w0 w ts) (i : Nat) (hi : ts[i]? = some (dataT A)) {k : Nat} {x : Pv} (hx : A[k]? = some x) : Sl w x.2 (ints x.1.bs) := by
  have hp : Pool w (A.map pvRow) := h.get i hi
  obtain ⟨e1, ho⟩ := hp.row (pvRow x) (List.mem_map_of_mem (List.mem_of_getElem? hx))
  exact Sl.owned ho

theorem data_mem {A : List Pv} {k : Nat} {x : Pv} (hx : A[k]? = some x) (g : Nat) (hg : x.2.ownBlock = some g) : g ∈ (dataT A).F :=
  List.mem_filterMap.2 ⟨pvRow x, List.mem_map_of_mem (List.mem_of_getElem? hx), hg⟩

set_option maxHeartbeats 4000000 in
set_option maxRecDepth 100000 in
theorem liftAny_walk (C : LiftCons) (rw0 : Nat) (hrw : rw0 ≤ 65535) (v : Value) (ds : List PtD) (W : World) (hd : Pts W v ds) : Calls Try.prog 5 #[.int .u16 (rw0 : Int), v] W (Holds W) := by
  obtain ⟨i0, hi, hz0, hz1, hz2⟩ := info_parts info_patch
  replace hi := Lib.hid hi
  replace hz0 := Lib.hid hz0
  replace hz1 := Lib.hid hz1
  replace hz2 := Lib.hid hz2
  obtain ⟨row, hrow⟩ : ∃ row : Nat, row = rw0 % 4096 := ⟨_, rfl⟩
  have er : Int.tmod (rw0 : Int) 4096 = (row : Int) := by rw [hrow]; rfl
  have HR0 : Hid (row ≤ 4095) := by show _ ≤ _; omega
  have e16 : IntKind.i64.wrap (rw0 : Int) = (rw0 : Int) := (wrap_in (by omega) (by omega)).1
  obtain ⟨ao, vc, rfl⟩ := hd.slice
  have DS : Hid (∀ w', Chg [] W w' → Pts w' (.slice ao ds.length vc) ds) := fun w' c => hd.chg c
  clear hd hrw hrow
  go_enter Try.func5, Try.ntmps5
  by_cases hn : 200 < ds.length
  · have h1 : (200 : Int) < ds.length := by omega
    go_wp2_with fail
    refine (known_any C W).mono ?_
    rintro e w1 ⟨rfl, C1⟩
    go_wp2_with fail
    go_ret
    exact ⟨rfl, C1.out⟩
  have h1 : ¬ (200 : Int) < ds.length := by omega
  have HN : Hid (ds.length ≤ 200) := by show _ ≤ _; omega
  go_wp2_with fail
  refine (known_any C W).mono ?_
  rintro e w1 ⟨rfl, C1⟩
  go_wp2_with fail
  have H0 : Hid (Side W w1 [listT (.slice none 0 0) [], dataT []]) := by
    have h1 : Side W w1 [dataT []] := (Side.nil C1.out).add (Chg.refl _ _) (Pool.nil _) (fun k hk => by simp [dataT, poolT, rowsOf] at hk)
    exact h1.add (Chg.refl _ _) (OwnW.nil 3 _ 0 _) (fun k hk => by simp [listT, wideT, Value.ownBlock] at hk)
  clear C1
  go_loopw [6, 7] (fun p i wr => ∃ (k : Nat) (A : List Pv), k ≤ ds.length ∧ i = .int .i64 k ∧ Hid (Mk A k) ∧ Hid (Side W wr [listT p A, dataT A])) (fun p i _ => ds.length - (intOf i).toNat)
  case atStart => exact ⟨0, [], Nat.zero_le _, rfl, ⟨List.Pairwise.nil, Nat.le_refl _, fun p hp => by cases hp⟩, H0⟩
  case round =>
    obtain ⟨k, A, hk, rfl, MK, H⟩ := hrel
    clear H0
    have OA := Lib.hid (show OwnW 3 wr 0 49 u6 (A.map pvSlot) from H.out.get 0 rfl)
    obtain ⟨po, pc, hpv⟩ := OA.out.slice
    rw [List.length_map] at hpv
    subst hpv
    by_cases hlt : k < ds.length
    case neg =>
      have hge : ¬ (k : Int) < ds.length := by omega
      have MKn : Hid (Mk A ds.length) := by obtain rfl : k = ds.length := by omega
                                            exact MK
      have LA : Hid (A.length ≤ 200) := by show _ ≤ _; have := MKn.out.few; have := HN.out; omega
      have AP : Hid (Lf.Apart (dOf A)) := MKn.out.apart
      have EA : Hid (∀ p ∈ A, p.1.m ≤ 15 ∧ p.1.r ≤ 4095 ∧ p.1.bs.length = 128 ∧ By (ints p.1.bs)) := MKn.out.each
      clear MK MKn OA hk hlt
      have la : (A.length : Int) ≤ 200 := by have := LA.out; omega
      go_wp2_with fail
      refine (C.new_ok row HR0.out W wr _ H.out).mono ?_
      rintro e w2 ⟨P, F, rfl, H2⟩
      clear H
      go_wp2_with fail
      refine (C.new_ok row HR0.out W w2 _ H2.out).mono ?_
      rintro e w3 ⟨P2, F2, rfl, H3⟩
      clear H2
      have H4 : Hid (Side W w3 [C.T P (Lf.fold ((dOf A).take 0)) row F, C.T P2 (Lf.fold ((dOf A).reverse.take 0)) row F2, listT (.slice po A.length pc) A, dataT A]) := H3.out.front 1
      clear H3
      go_wp2_with fail
      go_loopw [16] (fun i w2 => ∃ (t : Nat) (F F2 : List Nat), t ≤ A.length ∧ i = .int .i64 t ∧ Hid (Side W w2 [C.T P (Lf.fold ((dOf A).take t)) row F, C.T P2 (Lf.fold ((dOf A).reverse.take t)) row F2, listT (.slice po A.length pc) A, dataT A])) (fun i _ => A.length - (intOf i).toNat)
      case atStart => exact ⟨0, F, F2, Nat.zero_le _, rfl, H4⟩
      case round =>
        obtain ⟨t, G, G2, ht, rfl, H⟩ := hrel
        clear H4
        by_cases htl : t < A.length
        case neg =>
          obtain rfl : t = A.length := by omega
          have E1 : Hid ((dOf A).take A.length = dOf A) := List.take_of_length_le (by unfold dOf; rw [List.length_map]; exact Nat.le_refl _)
          have E2 : Hid ((dOf A).reverse.take A.length = (dOf A).reverse) := List.take_of_length_le (by unfold dOf; rw [List.length_reverse, List.length_map]; exact Nat.le_refl _)
          rw [E1.out, E2.out, Lf.fold_reverse AP.out] at H
          go_wp2_with fail
          have FW : Few (Lf.fold (dOf A)) := Nat.le_trans (fold_few _) (by have := LA.out; unfold dOf; rw [List.length_map]; omega)
          have LF : Hid ((Lf.fold (dOf A)).length = A.length) := by
            have h := Lf.Apart.len (Lf.srt_fold (dOf A)).apart AP.out (fun x => Lf.mem_fold AP.out)
            show _ = _
            rw [h]
            unfold dOf
            rw [List.length_map]
          have BL : Hid (∀ p ∈ Lf.fold (dOf A), p.bs.length = 128) := fun p hp => by
            obtain ⟨q, hq, rfl⟩ := List.mem_map.1 ((Lf.mem_fold AP.out).1 hp)
            exact (EA.out q hq).2.2.1
          obtain ⟨S, hS⟩ : ∃ S, S = Lf.fold (dOf A) := ⟨_, rfl⟩
          have SR : Lf.Srt S := by rw [hS]; exact Lf.srt_fold _
          rw [← hS] at H FW LF BL
          clear hS E1 E2 AP EA
          have FW2 := Lib.hid FW
          have SR2 := Lib.hid SR
          clear FW SR
          refine (C.all W wr _ P row S G SR2.out FW2.out H.out).mono ?_
          rintro e w5 ⟨v, B, G3, rfl, HB, H5⟩
          clear H
          obtain ⟨st, hst⟩ : ∃ st, st = Lf.stop row (Lf.way row S) := ⟨_, rfl⟩
          rw [← hst] at H5
          go_wp2_with fail
          refine (C.all W w5 _ P2 row S G2 SR2.out FW2.out (H5.out.front 3)).mono ?_
          rintro e w6 ⟨v2, B2, G4, rfl, HB2, H6⟩
          rw [← hst] at H6
          clear H5 hst
          have LB : Hid (B.length = A.length) := by
            have h := congrArg List.length HB.out
            unfold dOf at h
            rw [List.length_map, Lf.way_len, LF.out] at h
            exact h
          have LB2 : Hid (B2.length = A.length) := by
            have h := congrArg List.length HB2.out
            unfold dOf at h
            rw [List.length_map, Lf.way_len, LF.out] at h
            exact h
          have bl : ∀ D : List Pv, dOf D = Lf.way row S → ∀ p ∈ D, p.1.bs.length ≤ 1000000 := fun D hD p hp => by
            have h : p.1 ∈ Lf.way row S := by rw [← hD]; exact List.mem_map.2 ⟨p, hp, rfl⟩
            rw [BL.out _ (Lf.mem_way.1 h)]
            decide
          have PT1 : Hid (Pts w6 v (B.map toPt)) := pts_of (show OwnW 3 w6 0 49 v (B.map pvSlot) from H6.out.get 4 rfl) (show Pool w6 (B.map pvRow) from H6.out.get 5 rfl) (by rw [LB.out]; have := LA.out; omega) (bl B HB.out)
          have PT2 : Hid (Pts w6 v2 (B2.map toPt)) := pts_of (show OwnW 3 w6 0 49 v2 (B2.map pvSlot) from H6.out.get 1 rfl) (show Pool w6 (B2.map pvRow) from H6.out.get 2 rfl) (by rw [LB2.out]; have := LA.out; omega) (bl B2 HB2.out)
          obtain ⟨bo, bc, hv⟩ := PT1.out.slice
          rw [List.length_map, LB.out] at hv
          subst hv
          have SM : Hid (∀ n, Calls Try.prog 13 #[.slice bo A.length bc, v2] (w6.drewN n) fun e w' => e = .returned (.bool true) ∧ ∃ q, w' = (w6.drewN n).drewN q) := fun n => samePts_true _ _ _ _ _ (PT1.out.chg ((Chg.refl _ _).drewN n)) (PT2.out.chg ((Chg.refl _ _).drewN n)) (by rw [List.length_map, List.length_map, LB.out, LB2.out]) (alike_of (HB.out.trans HB2.out.symm))
          have R1 : Hid (∀ n, Calls Try.prog 23 #[.pointer (some ⟨P, 0, none⟩)] (w6.drewN n) fun e w' => e = .returned (.int .i64 (st : Int)) ∧ ∃ q, w' = (w6.drewN n).drewN q) := fun n => C.row _ P st [] G3 ((H6.out.quiet ((Chg.refl [] _).drewN n)).get 3 rfl)
          have R2 : Hid (∀ n, Calls Try.prog 23 #[.pointer (some ⟨P2, 0, none⟩)] (w6.drewN n) fun e w' => e = .returned (.int .i64 (st : Int)) ∧ ∃ q, w' = (w6.drewN n).drewN q) := fun n => C.row _ P2 st [] G4 ((H6.out.quiet ((Chg.refl [] _).drewN n)).get 0 rfl)
          have EN := Lib.hid H6.out.chg
          clear PT1 PT2 bl H6 HB HB2 BL LF FW2 SR2
          go_wp2_with fail
          refine (SM.out 0).mono ?_
          rintro e w7 ⟨rfl, q1, rfl⟩
          go_wp2_with fail
          refine (R1.out _).mono ?_
          rintro e w8 ⟨rfl, q2, rfl⟩
          go_wp2_with fail
          refine (R2.out _).mono ?_
          rintro e w9 ⟨rfl, q3, rfl⟩
          go_wp2_with fail
          go_ret
          exact ⟨rfl, EN.out.drewN _⟩
        obtain ⟨x, hx⟩ : ∃ x, A[t]? = some x := ⟨_, List.getElem?_eq_getElem htl⟩
        obtain ⟨n, hn2⟩ : ∃ n, n = A.length - 1 - t := ⟨_, rfl⟩
        have hnl : n < A.length := by omega
        obtain ⟨y, hy⟩ : ∃ y, A[n]? = some y := ⟨_, List.getElem?_eq_getElem hnl⟩
        have HX := Lib.hid hx
        have HY := Lib.hid hy
        have DX : Hid ((dOf A)[t]? = some x.1) := by show _ = _; unfold dOf; rw [List.getElem?_map, hx]; rfl
        have DY : Hid ((dOf A).reverse[t]? = some y.1) := by
          show _ = _
          unfold dOf
          rw [List.getElem?_reverse (by rw [List.length_map]; exact htl), List.length_map, List.getElem?_map, ← hn2, hy]
          rfl
        have OW := Lib.hid (show OwnW 3 wr 0 49 (.slice po A.length pc) (A.map pvSlot) from H.out.get 2 rfl)
        obtain ⟨g, rfl, a0, a1, a2⟩ := least_of_cells OW.out.rd hx
        have EX := EA.out x (List.mem_of_getElem? hx)
        have EY := EA.out y (List.mem_of_getElem? hy)
        have FEW : ∀ l : List Pd, l.length ≤ 200 → Few (Lf.fold l) := fun l hl => Nat.le_trans (fold_few l) (Nat.le_trans hl (by decide))
        have TL : ∀ l : List Pd, (l.take t).length ≤ 200 := fun l => by have := LA.out; rw [List.length_take]; omega
        have PX := Lib.hid (C.put_ok W wr _ P row _ G x.1 x.2 EX.1 EX.2.1 EX.2.2.1 (data_sl H.out 3 rfl hx) EX.2.2.2 (fun b hb hm => H.out.offAt 3 0 rfl rfl (by decide) b (data_mem hx b hb) hm) (Lf.srt_fold _) (FEW _ (TL _)) H.out)
        have PY : Hid (∀ w3 G3, Side W w3 [C.T P (Lf.ins x.1 (Lf.fold ((dOf A).take t))) row G3, C.T P2 (Lf.fold ((dOf A).reverse.take t)) row G2, listT (.slice (some ⟨g, 0, none⟩) A.length pc) A, dataT A] → _) := fun w3 G3 h => C.put_ok W w3 _ P2 row _ G2 y.1 y.2 EY.1 EY.2.1 EY.2.2.1 (data_sl h 3 rfl hy) EY.2.2.2 (fun b hb hm => h.offAt 3 1 rfl rfl (by decide) b (data_mem hy b hb) hm) (Lf.srt_fold _) (FEW _ (TL _)) (h.front 1)
        have RX : Hid (Lf.ins x.1 (Lf.fold ((dOf A).take t)) = Lf.fold ((dOf A).take (t + 1))) := (fold_take DX.out).symm
        have RY : Hid (Lf.ins y.1 (Lf.fold ((dOf A).reverse.take t)) = Lf.fold ((dOf A).reverse.take (t + 1))) := (fold_take DY.out).symm
        have HTL := Lib.hid htl
        have eN : (A.length : Int) - 1 - (t : Int) = (n : Int) := by omega
        have hn0 : (0 : Int) ≤ n := Int.natCast_nonneg _
        have hn1 : (n : Int) < A.length := by omega
        have ht0 : (0 : Int) ≤ t := Int.natCast_nonneg _
        have ht1 : (t : Int) < A.length := by omega
        have v1 : wrap64 ((A.length : Int) - 1) = (A.length : Int) - 1 := (wrap_in (by omega) (by omega)).2
        have v2 : wrap64 ((A.length : Int) - 1 - (t : Int)) = (n : Int) := by rw [eN]; exact (wrap_in (by omega) (by omega)).2
        clear hx hy htl ht EX EY FEW TL hnl hn2 OW
        go_wp2_with fail
        clear a0 a1 a2
        refine PX.out.mono ?_
        rintro e w5 ⟨rfl, G3, H5⟩
        have QY := Lib.hid (PY.out w5 G3 H5.out)
        obtain ⟨g', e1, b0, b1, b2⟩ := least_of_cells (show OwnW 3 w5 0 49 (.slice (some ⟨g, 0, none⟩) A.length pc) (A.map pvSlot) from H5.out.get 2 rfl).rd HY.out
        obtain rfl : g = g' := by simpa using e1
        clear PX PY H H5 e1
        go_wp2_with fail
        refine QY.out.mono ?_
        rintro e w6 ⟨rfl, G4, H6⟩
        have H7 := Lib.hid (H6.out.front 1)
        rw [RX.out, RY.out] at H7
        go_wp2_with fail
        exact ⟨⟨t + 1, G3, G4, by have := HTL.out; omega, rfl, H7⟩, by have := HTL.out; simp [intOf]; omega⟩
    obtain ⟨⟨pm, pr, pv, pd⟩, hx⟩ : ∃ p, ds[k]? = some p := ⟨_, List.getElem?_eq_getElem hlt⟩
    obtain ⟨vb, vo, rfl, hvb, I⟩ := (DS.out _ H.out.chg).at hx
    obtain ⟨M, eM0, eM, hM2⟩ : ∃ M : Nat, pm % 16 = (M : Int) ∧ Int.tmod (IntKind.u8.wrap pm) 16 = (M : Int) ∧ M ≤ 15 := by
      have e : IntKind.u8.wrap pm = pm % 256 := by simp [IntKind.wrap, IntKind.bits, IntKind.signed]
      refine ⟨(pm % 16).toNat, by omega, ?_, by omega⟩
      rw [e, Int.tmod_eq_emod_of_nonneg (by omega)]
      omega
    obtain ⟨R, hR⟩ : ∃ R : Nat, Int.tmod (IntKind.u16.wrap pr) 4096 = (R : Int) ∧ R ≤ 4095 := by
      have h : 0 ≤ IntKind.u16.wrap pr := by simp [IntKind.wrap, IntKind.bits, IntKind.signed]; omega
      obtain ⟨z, hz⟩ : ∃ z : Nat, IntKind.u16.wrap pr = z := ⟨_, (Int.toNat_of_nonneg h).symm⟩
      rw [hz]
      exact ⟨z % 4096, rfl, by omega⟩
    obtain ⟨eR, hR2⟩ := hR
    have HM := Lib.hid hM2
    have HR := Lib.hid hR2
    have w8 : IntKind.i64.wrap (IntKind.u8.wrap pm) = IntKind.u8.wrap pm := (wrap_in (by simp [IntKind.wrap, IntKind.bits, IntKind.signed]; omega) (by simp [IntKind.wrap, IntKind.bits, IntKind.signed]; omega)).1
    have w16 : IntKind.i64.wrap (IntKind.u16.wrap pr) = IntKind.u16.wrap pr := (wrap_in (by simp [IntKind.wrap, IntKind.bits, IntKind.signed]; omega) (by simp [IntKind.wrap, IntKind.bits, IntKind.signed]; omega)).1
    have c0 := I.c0
    have c1 := I.c1
    dsimp only at c0 c1
    have HLT := Lib.hid hlt
    have hk0 : (0 : Int) ≤ k := Int.natCast_nonneg _
    have hk1 : (k : Int) < ds.length := by omega
    clear hx I hvb hlt hk hM2 hR2
    go_wp2_with fail
    go_loopw [10, 11] (fun bv j w2 => ∃ (t : Nat) (q : Bool), t ≤ A.length ∧ bv = .bool q ∧ j = .int .i64 t ∧ Hid (q = hasAt ((dOf A).take t) M R) ∧ ∃ n, w2 = wr.drewN n) (fun bv j _ => A.length - (intOf j).toNat)
    case atStart => exact ⟨0, false, Nat.zero_le _, rfl, rfl, rfl, 0, rfl⟩
    case round =>
      obtain ⟨t, q, ht, rfl, rfl, HQ, n, rfl⟩ := hrel
      have WT := Lib.hid (wrap_in (z := (t : Int) + 1) (by have := MK.out.few; have := HN.out; have := HLT.out; omega) (by have := MK.out.few; have := HN.out; have := HLT.out; omega))
      by_cases htl : t < A.length
      case neg =>
        obtain rfl : t = A.length := by omega
        have HQ2 : Hid (q = hasAt (dOf A) M R) := by
          have h := HQ.out
          rw [List.take_of_length_le (by unfold dOf; rw [List.length_map]; exact Nat.le_refl _)] at h
          exact h
        cases q
        case true =>
          go_wp2_with fail
          exact ⟨⟨k + 1, A, by have := HLT.out; omega, rfl, MK.out.up, H.out.quiet ((Chg.refl _ _).drewN n)⟩, by have := HLT.out; simp [intOf]; omega⟩
        case false =>
          have wk8 : IntKind.u8.wrap (k : Int) = (k : Int) := by have := HN.out; have := HLT.out; simp [IntKind.wrap, IntKind.bits, IntKind.signed]; omega
          go_wp2_with fail
          refine (patch_any M R k _).mono ?_
          rintro e w2 ⟨g, rfl, O, D⟩
          have H2 := Lib.hid ((H.out.quiet ((Chg.refl _ _).drewN n)).patch O.out D.out)
          clear OA H O D c0 c1
          have OA := Lib.hid (show OwnW 3 w2 0 49 (.slice po A.length pc) (A.map pvSlot) from H2.out.get 1 rfl)
          have OR : Hid (w2.ownsRow 0 49 3 (.slice po A.length pc) A.length (A.map pvSlot).flatten) := by have := OA.out.2; rw [List.length_map] at this; exact this
          have B1 : Hid (A.length + 1 ≤ maxLen) := by have := MK.out.few; have := HN.out; have := HLT.out; show _ ≤ _; unfold maxLen; omega
          have B2 : Hid ((A.length + 1) * 40 ≤ 140737488355328) := by have := MK.out.few; have := HN.out; have := HLT.out; show _ ≤ _; omega
          have H3 : Hid (Side W (w2.alloc (.cells #[.int .i64 (M : Int), .int .i64 (R : Int), .slice (some ⟨g, 0, none⟩) 128 128] 49)) [ownT 5 (.slice (some ⟨g, 0, none⟩) 128 128) (ub (full k)), listT (.slice po A.length pc) A, dataT A]) := H2.out.quiet ((Chg.refl _ _).alloc _)
          have MK2 : ∀ v, Hid (Mk (A ++ [(⟨M, R, full k⟩, v)]) (k + 1)) := fun v => MK.out.more HM.out HR.out (full_len _) (full_by _ (by have := HN.out; have := HLT.out; omega)) HQ2.out.symm
          go_wp2_with (at_builtin; refine wpList_append_three _ rfl (.tmp 79) (.tmp 85) 56 rfl 0 49 i0 (.agg #[.int .i64 0, .int .i64 0, .slice none 0 0]) 3 40 Try.underlying56 hi.out hz0.out hz1.out hz2.out rfl (by decide) _ A.length _ rfl (OR.out.alloc _) ⟨w2.heap.size, 0, none⟩ 1 1 [.int .i64 (M : Int), .int .i64 (R : Int), .slice (some ⟨g, 0, none⟩) 128 128] rfl rfl (three_new w2 (.int .i64 (M : Int)) (.int .i64 (R : Int)) (.slice (some ⟨g, 0, none⟩) 128 128) 49) (by simp [Value.oneCell']) B1.out B2.out (Nat.zero_le _) ?_; intro vn wn ol gr nb)
          have gr2 : World.grownBy _ wn (Value.slice po A.length pc).ownBlock := gr.out
          have nb2 : vn.ownBlock = (Value.slice po A.length pc).ownBlock ∨ _ := nb.out
          have CG : Hid (Chg (Value.slice po A.length pc).ownBlock.toList (w2.alloc (.cells #[.int .i64 (M : Int), .int .i64 (R : Int), .slice (some ⟨g, 0, none⟩) 128 128] 49)) wn) := (Chg.refl _ _).grown gr2 (fun k hk => .inl (by rw [hk]; simp))
          have H4 := Lib.hid (gather0 (d := ⟨M, R, full k⟩) H3.out CG.out rfl ol.out (nb_of nb2 (Nat.le_refl _)))
          exact ⟨⟨k + 1, _, by have := HLT.out; omega, rfl, MK2 _, H4⟩, by have := HLT.out; simp [intOf]; omega⟩
      obtain ⟨x, hx⟩ : ∃ x, A[t]? = some x := ⟨_, List.getElem?_eq_getElem htl⟩
      have HX := Lib.hid hx
      obtain ⟨g, rfl, d0, d1, d2⟩ := least_of_cells OA.out.rd hx
      have HTL := Lib.hid htl
      have HS : Hid (∀ b : Bool, decide (x.1.m = M ∧ x.1.r = R) = b → (q || b) = hasAt ((dOf A).take (t + 1)) M R) := fun b hb => by
        have h : (dOf A)[t]? = some x.1 := by unfold dOf; rw [List.getElem?_map, HX.out]; rfl
        rw [hasAt_take h, ← HQ.out, hb]
      have ht0 : (0 : Int) ≤ t := Int.natCast_nonneg _
      have ht1 : (t : Int) < A.length := by omega
      clear htl hx ht d2 c0 c1
      by_cases c1 : x.1.m = M
      · rw [c1] at d0
        by_cases c2 : x.1.r = R
        · rw [c2] at d1
          have F := Lib.hid (HS.out true (decide_eq_true ⟨c1, c2⟩))
          clear HS c1 c2
          cases q
          all_goals go_wp2_with fail
          all_goals exact ⟨⟨t + 1, _, by have := HTL.out; omega, rfl, by rw [WT.out.2]; rfl, F.out, n, rfl⟩, by have := HTL.out; rw [WT.out.2]; simp [intOf]; omega⟩
        · have b1 : ((x.1.r : Int) == (R : Int)) = false := by simp; omega
          have F := Lib.hid (HS.out false (decide_eq_false fun h => c2 h.2))
          clear HS c1 c2
          cases q
          all_goals go_wp2_with fail
          all_goals exact ⟨⟨t + 1, _, by have := HTL.out; omega, rfl, by rw [WT.out.2]; rfl, F.out, n, rfl⟩, by have := HTL.out; rw [WT.out.2]; simp [intOf]; omega⟩
      · have b0 : ((x.1.m : Int) == (M : Int)) = false := by simp; omega
        have F := Lib.hid (HS.out false (decide_eq_false fun h => c1 h.1))
        clear HS c1
        cases q
        all_goals go_wp2_with fail
        all_goals exact ⟨⟨t + 1, _, by have := HTL.out; omega, rfl, by rw [WT.out.2]; rfl, F.out, n, rfl⟩, by have := HTL.out; rw [WT.out.2]; simp [intOf]; omega⟩

end Go.Proofs.Ytihmegpcbpdipaa
