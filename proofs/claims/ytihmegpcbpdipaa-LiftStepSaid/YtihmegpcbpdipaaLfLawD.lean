/-
  LiftDoes, walked, against what the program's lift does. By an AI agent.
-/
import Derived.Test.YtihmegpcbpdipaaLfKnown
import Derived.Test.YtihmegpcbpdipaaLfIn
import Derived.Test.YtihmegpcbpdipaaGWholePts
namespace Go.Proofs.Ytihmegpcbpdipaa
open Go.RowKit

def Holds (W : World) (e : Ending) (w' : World) : Prop := e = .returned (.bool true) ∧ Chg [] W w'

theorem Side.boxed {w0 W : World} {ts : List Thing} (h : Side w0 W ts) (vs : List Value) (e : TypeId) : Side w0 (W.alloc (.cells vs.toArray e)) (blkT W.heap.size e vs :: ts) :=
  h.add ((Chg.refl _ _).alloc _) (Blk.made W vs e) (fun k hk => by rw [List.mem_singleton.1 hk]; exact Nat.le_refl _)

/-- What is known between two acts. -/
structure Sit (C : LiftCons) (W w : World) (P Q b k row : Nat) (S : List Pd) (F : List Nat) (lv : Value) (L : List Pv) (l0 l10 : Value) (vs : List (Value × List Value)) (us : Wides) : Prop where
  srt : Lf.Srt S
  rep : Rep L S
  len : ∀ d ∈ S, d.bs.length = 128
  few : S.length ≤ k
  vsl : vs.length ≤ 500 * k
  usl : us.length ≤ k
  vsr : ∀ p ∈ vs, p.2.length ≤ 128
  usr : ∀ p ∈ us, p.2.length ≤ 400
  side : Side W w [C.T P S row F, lfT Q lv row, listT lv L, dataT L, bytesT l0 vs, ptsRackT l10 us, ptBookT b l0 l10]

/-- A patch of a lift's list, for the book. -/
def toPm (p : Pv) : Pm := ((p.1.m, p.1.r), (p.2, ub p.1.bs))

theorem toPm_slots (A : List Pv) : (A.map toPm).map pmSlot = A.map pvSlot := by rw [List.map_map]; rfl
theorem toPm_rows (A : List Pv) : (A.map toPm).map (·.2) = A.map pvRow := by rw [List.map_map]; rfl

theorem pts_of2 {w : World} {v : Value} {A : List Pv} (h : OwnW 3 w 0 49 v (A.map pvSlot)) (hp : ∀ p ∈ A, OwnR w 0 p.2 (ub p.1.bs).length (ub p.1.bs)) (hl : A.length ≤ 1000000) (hb : ∀ p ∈ A, p.1.bs.length ≤ 1000000) : Pts w v (A.map toPt) := by
  rcases h.2.2 with ⟨rfl, h0⟩ | ⟨g, cap, cur, rfl, _, hg, _⟩
  · have : A = [] := List.eq_nil_of_length_eq_zero (by simpa using h0)
    subst this
    exact .inl ⟨rfl, _, _, rfl⟩
  · refine .inr ⟨g, 0, cap, by rw [List.length_map, List.length_map], (Array.getElem?_eq_some_iff.1 hg).1, by rw [List.length_map]; omega, fun i d hd => ?_⟩
    rw [List.getElem?_map] at hd
    obtain ⟨p, hpi, rfl⟩ := Option.map_eq_some_iff.1 hd
    rw [List.length_map] at h
    obtain ⟨g', e, c0, c1, c2⟩ := least_of_cells (n := A.length) h.rd hpi
    obtain rfl : g = g' := by simpa using e
    obtain ⟨e1, ho⟩ := hp p (List.mem_of_getElem? hpi)
    rw [Nat.zero_add]
    have hpl := hb p (List.mem_of_getElem? hpi)
    exact ⟨c0, c1, c2, Sl.owned ho, by show (ints p.1.bs).length ≤ _; rw [ints_length]; omega⟩

theorem alike_of {A B : List Pv} (h : dOf A = dOf B) : ∀ (i : Nat) (p q : PtD), (A.map toPt)[i]? = some p → (B.map toPt)[i]? = some q → p.alike q := fun i p q hp hq => by
  rw [List.getElem?_map] at hp hq
  obtain ⟨x, hx, rfl⟩ := Option.map_eq_some_iff.1 hp
  obtain ⟨y, hy, rfl⟩ := Option.map_eq_some_iff.1 hq
  have e1 : (dOf A)[i]? = some x.1 := by unfold dOf; rw [List.getElem?_map, hx]; rfl
  have e2 : (dOf B)[i]? = some y.1 := by unfold dOf; rw [List.getElem?_map, hy]; rfl
  rw [h, e2] at e1
  have e := Option.some.inj e1
  unfold toPt PtD.alike
  rw [e]
  exact ⟨rfl, rfl, rfl⟩

theorem Sit.quiet {C : LiftCons} {W w : World} {P Q b k row : Nat} {S : List Pd} {F : List Nat} {lv : Value} {L : List Pv} {l0 l10 : Value} {vs : List (Value × List Value)} {us : Wides} (h : Sit C W w P Q b k row S F lv L l0 l10 vs us) (n : Nat) : Sit C W (w.drewN n) P Q b k row S F lv L l0 l10 vs us :=
  ⟨h.srt, h.rep, h.len, h.few, h.vsl, h.usl, h.vsr, h.usr, h.side.quiet ((Chg.refl _ _).drewN n)⟩

/-- What has been lent, as a thing. -/
def lendT (w1 : World) (G : Nat) (gs : List Nat) (ps : List PtD) : Thing where
  F := G :: gs
  P := fun w => LendP w1 w G gs ps
  lt := fun w h k hk => by
    rcases List.mem_cons.1 hk with e | hk
    · rw [e]; exact h.blk.lt
    · exact h.rows.lt k hk
  stays := fun w w' s h c hs => ⟨h.rows.chg c (fun g hg => hs g (List.mem_cons_of_mem _ hg)), h.blk.chg c (hs G List.mem_cons_self), h.newG⟩

set_option maxHeartbeats 2000000 in
set_option maxRecDepth 100000 in
theorem liftDoes_no (C : LiftCons) (row : Int) (h : row < 0 ∨ 4095 < row) (v : Value) (W : World) : Calls Try.prog 3 #[.int .i64 row, v] W (Holds W) := by
  have CN := C.new_no row h
  have RN := refNew_no row h
  go_enter Try.func3, Try.ntmps3
  go_wp2_with fail
  refine (known_any C W).mono ?_
  rintro e w1 ⟨rfl, C1⟩
  go_wp2_with fail
  refine (CN _).mono ?_
  rintro e w2 ⟨rfl, C2⟩
  go_wp2_with fail
  refine (RN _).mono ?_
  rintro e w3 ⟨rfl, rfl⟩
  go_wp2_with fail
  go_ret
  exact ⟨rfl, C1.out.trans C2.out⟩

set_option maxHeartbeats 8000000 in
set_option maxRecDepth 100000 in
theorem liftDoes_ok (C : LiftCons) (row0 : Nat) (hr0 : row0 ≤ 4095) (v : Value) (ds : List LActD) (W : World) (hd : LActs W v ds) : Calls Try.prog 3 #[.int .i64 (row0 : Int), v] W (Holds W) := by
  have CN := Lib.hid C.new_ok
  have RN := Lib.hid (refNew_ok row0 hr0)
  have HR0 := Lib.hid hr0
  obtain ⟨ao, vc, rfl⟩ := hd.slice
  have DS : Hid (∀ w', Chg [] W w' → LActs w' (.slice ao ds.length vc) ds) := fun w' c => hd.chg c
  clear hd hr0
  go_enter Try.func3, Try.ntmps3
  go_wp2_with fail
  refine (known_any C W).mono ?_
  rintro e w1 ⟨rfl, C1⟩
  go_wp2_with fail
  refine (CN.out row0 HR0.out W w1 [] (Side.nil C1.out)).mono ?_
  rintro e w2 ⟨P, F, rfl, H⟩
  clear C1 CN
  go_wp2_with fail
  refine (RN.out w2).mono ?_
  rintro e w3 ⟨rfl, B, D⟩
  have H1 : Hid (Side W w3 [lfT w2.heap.size (.slice none 0 0) row0, C.T P [] row0 F]) := H.out.add D.out B.out (fun k hk => by rw [List.mem_singleton.1 hk]; exact Nat.le_refl _)
  clear H B D RN
  generalize w2.heap.size = Q at *
  by_cases hn : 400 < ds.length
  · have h1 : (400 : Int) < ds.length := by omega
    go_wp2_with fail
    go_ret
    exact ⟨rfl, H1.out.chg⟩
  have h1 : ¬ (400 : Int) < ds.length := by omega
  have HN : Hid (ds.length ≤ 400) := by show _ ≤ _; omega
  go_wp2_with fail
  have H0 : Hid (Side W (w3.alloc (.cells #[.slice none 0 0, .slice none 0 0, .slice none 0 0, .slice none 0 0, .slice none 0 0, .slice none 0 0, .slice none 0 0, .slice none 0 0, .slice none 0 0, .slice none 0 0, .slice none 0 0, .slice none 0 0] 46)) [C.T P [] row0 F, lfT Q (.slice none 0 0) row0, listT (.slice none 0 0) [], dataT [], bytesT (.slice none 0 0) [], ptsRackT (.slice none 0 0) [], ptBookT w3.heap.size (.slice none 0 0) (.slice none 0 0)]) := by
    have h2 := H1.out.boxed (ptBook (.slice none 0 0) (.slice none 0 0)) 46
    have h3 := h2.add (b := ptsRackT (.slice none 0 0) []) (Chg.refl _ _) (RackW.nil _ _ _ _) (fun k hk => by simp [ptsRackT, rackWT, blocksOf, Value.ownBlock] at hk)
    have h4 := h3.add (b := bytesT (.slice none 0 0) []) (Chg.refl _ _) (Rack.nil _ _ _) (fun k hk => by simp [bytesT, rackT, rowsOf, Value.ownBlock] at hk)
    have h5 := h4.add (b := dataT []) (Chg.refl _ _) (Pool.nil _) (fun k hk => by simp [dataT, poolT, rowsOf] at hk)
    have h6 := h5.add (b := listT (.slice none 0 0) []) (Chg.refl _ _) (OwnW.nil 3 _ 0 _) (fun k hk => by simp [listT, wideT, Value.ownBlock] at hk)
    exact (h6.front 5).front 6
  clear H1
  generalize w3.heap.size = b at *
  generalize (w3.alloc (.cells #[.slice none 0 0, .slice none 0 0, .slice none 0 0, .slice none 0 0, .slice none 0 0, .slice none 0 0, .slice none 0 0, .slice none 0 0, .slice none 0 0, .slice none 0 0, .slice none 0 0, .slice none 0 0] 46)) = w4 at *
  go_loopw [10] (fun i wr => ∃ (k row : Nat) (S : List Pd) (F : List Nat) (lv : Value) (L : List Pv) (l0 l10 : Value) (vs : List (Value × List Value)) (us : Wides), k ≤ ds.length ∧ i = .int .i64 k ∧ Hid (Sit C W wr P Q b k row S F lv L l0 l10 vs us)) (fun i _ => ds.length - (intOf i).toNat)
  case atStart => exact ⟨0, row0, [], F, _, [], _, _, [], [], Nat.zero_le _, rfl, ⟨List.Pairwise.nil, Rep.nil, fun d hd => (by cases hd), Nat.le_refl _, Nat.zero_le _, Nat.le_refl _, fun p hp => (by cases hp), fun p hp => (by cases hp), H0.out⟩⟩
  case round =>
    obtain ⟨k, row, S, F, lv, L, l0, l10, vs, us, hk, rfl, SI⟩ := hrel
    clear H0
    by_cases hlt : k < ds.length
    case neg =>
      obtain rfl : k = ds.length := by omega
      go_wp2_with fail
      refine (ptBook_own (vs := vs) (us := us) SI.out.side.tail.tail.tail.tail (by have := SI.out.vsl; have := HN.out; omega) (fun p hp => by have := SI.out.vsr p hp; omega) (by have := SI.out.usl; have := HN.out; omega) (fun p hp => by have := SI.out.usr p hp; omega)).mono ?_
      rintro e w5 ⟨rfl, CF⟩
      go_wp2_with fail
      go_ret
      exact ⟨rfl, CF.out⟩
    obtain ⟨⟨kd, ⟨pm, pr, pv, pd⟩⟩, hx⟩ : ∃ p, ds[k]? = some p := ⟨_, List.getElem?_eq_getElem hlt⟩
    have HX := Lib.hid hx
    obtain ⟨vb, vo, rfl, hvb, I⟩ := (DS.out _ SI.out.side.chg).at hx
    have DC : Hid (∀ w', Chg [] W w' → w'.cell? ⟨vb, vo + k * 4, none⟩ = some (.int .u8 kd) ∧ w'.cell? ⟨vb, vo + k * 4 + 1, none⟩ = some (.int .i64 pm) ∧ w'.cell? ⟨vb, vo + k * 4 + 1 + 1, none⟩ = some (.int .i64 pr) ∧ w'.cell? ⟨vb, vo + k * 4 + 1 + 2, none⟩ = some pv ∧ Sl w' pv pd) := fun w' c => by
      obtain ⟨b2, o2, q, _, J⟩ := (DS.out w' c).at HX.out
      obtain ⟨rfl, rfl⟩ : vb = b2 ∧ vo = o2 := by simpa using q
      exact ⟨J.k0, J.pt.c0, J.pt.c1, J.pt.c2, J.pt.sl⟩
    have BY : Hid (By pd) := I.by_
    obtain ⟨q, hq⟩ : ∃ q : Nat, q = kd.toNat % 8 := ⟨_, rfl⟩
    have hkd := I.rk
    dsimp only at hkd
    have eq8 : Int.tmod kd 8 = (q : Int) := by
      obtain ⟨z, rfl⟩ : ∃ z : Nat, kd = z := ⟨kd.toNat, by omega⟩
      rw [hq, Int.toNat_natCast]
      rfl
    have hq8 : q < 8 := by rw [hq]; exact Nat.mod_lt _ (by decide)
    have HLT := Lib.hid hlt
    have WK := Lib.hid (wrap_in (z := (k : Int) + 1) (by have := HN.out; omega) (by have := HN.out; omega))
    have hk0 : (0 : Int) ≤ k := Int.natCast_nonneg _
    have hk1 : (k : Int) < ds.length := by omega
    obtain ⟨po, pc, rfl⟩ := (DC.out _ SI.out.side.chg).2.2.2.2.slice
    clear hx I hvb hlt hk hq hkd
    obtain ⟨c0, c1, c2, c3, _⟩ := DC.out _ SI.out.side.chg
    by_cases hbig : 1000 < pd.length
    · have hb1 : (1000 : Int) < pd.length := by omega
      go_wp2_with fail
      go_ret
      exact ⟨rfl, SI.out.side.chg⟩
    have hb1 : ¬ (1000 : Int) < pd.length := by omega
    have HBIG : Hid (pd.length ≤ 1000) := by show _ ≤ _; omega
    clear hbig
    rcases (show q = 5 ∨ q = 6 ∨ q = 7 ∨ (q ≠ 5 ∧ q ≠ 6 ∧ q ≠ 7) by omega) with rfl | rfl | rfl | ⟨n5, n6, n7⟩
    · replace eq8 : Int.tmod kd 8 = 5 := eq8
      have CX := Lib.hid (C.next W wr _ P row S F SI.out.srt (by show _ ≤ _; have := SI.out.few; have := HN.out; have := HLT.out; omega) SI.out.side)
      clear c0 c1 c2 c3
      have c0 := (DC.out _ SI.out.side.chg).1
      have cb := (DC.out _ SI.out.side.chg).2.2.2.1
      go_wp2_with fail
      refine CX.out.mono ?_
      rintro e w5 (⟨rfl, rfl, F2, H5⟩ | ⟨d, v, e8, F2, hw, hd, rfl, H5⟩)
      · clear CX c0 cb
        have H6 : Hid (Side W (w5.alloc (.cells #[.int .i64 0, .int .i64 0, .slice none 0 0] 49)) [lfT Q lv row, listT lv L, dataT L, blkT w5.heap.size 49 [.int .i64 0, .int .i64 0, .slice none 0 0], C.T P (([] : List Pd)) row F2, bytesT l0 vs, ptsRackT l10 us, ptBookT b l0 l10]) := by
          have h := H5.out.boxed [.int .i64 0, .int .i64 0, .slice none 0 0] 49
          exact ((h.front 4).front 4).front 4
        have RN := Lib.hid (refNext_any Q row lv L [] SI.out.rep (by have := RP_len SI.out.rep; have := SI.out.few; have := HN.out; have := HLT.out; omega) H6.out)
        clear H5
        go_wp2_with fail
        generalize hX1 : w5.heap.size = X1 at *
        replace hX1 := Lib.hid hX1
        refine RN.out.mono ?_
        rintro e w6 (⟨_, rfl, lv2, H7⟩ | ⟨d2, v2, e9, lv2, L2, _, hd2, _⟩)
        case inr => cases hd2
        clear RN H6
        have H8 : Hid (Side W (w6.alloc (.cells #[.int .i64 0, .int .i64 0, .slice none 0 0] 49)) [ownT 5 (.slice none 0 0) [], bytesT l0 vs, ptBookT b l0 l10, blkT w6.heap.size 49 [.int .i64 0, .int .i64 0, .slice none 0 0], lfT Q lv2 row, listT lv2 ([] : List Pv), dataT ([] : List Pv), blkT X1 49 [.int .i64 0, .int .i64 0, .slice none 0 0], C.T P (([] : List Pd)) row F2, ptsRackT l10 us]) := by
          have h := (H7.out.boxed [.int .i64 0, .int .i64 0, .slice none 0 0] 49).add (b := ownT 5 (.slice none 0 0) []) (Chg.refl _ _) (World.ownsRow_nil _ _ _ _) (fun k hk => by simp [ownT, Value.ownBlock] at hk)
          exact ((h.front 9).front 8).front 2
        clear H7
        have x2 := (H8.out.get 7 rfl : Blk _ _ _ _).cell (j := 2) rfl
        go_wp2_with fail
        generalize hX2 : w6.heap.size = X2 at *
        replace hX2 := Lib.hid hX2
        refine (bookBytes_pt H8.out (by have := SI.out.vsl; have := HN.out; have := HLT.out; omega)).mono ?_
        rintro e w7 ⟨rfl, l02, H9⟩
        clear H8 x2
        have y0 := (H9.out.get 6 rfl : Blk _ _ _ _).cell (j := 0) rfl
        have y1 := (H9.out.get 6 rfl : Blk _ _ _ _).cell (j := 1) rfl
        have y2 := (H9.out.get 6 rfl : Blk _ _ _ _).cell (j := 2) rfl
        have z0 := ((H9.out.quiet ((Chg.refl _ _).alloc (.cells #[.int .i64 0, .int .i64 0, .slice none 0 0] 49))).get 2 rfl : Blk _ _ _ _).cell (j := 0) rfl
        have z1 := ((H9.out.quiet ((Chg.refl _ _).alloc (.cells #[.int .i64 0, .int .i64 0, .slice none 0 0] 49))).get 2 rfl : Blk _ _ _ _).cell (j := 1) rfl
        have z2 := ((H9.out.quiet ((Chg.refl _ _).alloc (.cells #[.int .i64 0, .int .i64 0, .slice none 0 0] 49))).get 2 rfl : Blk _ _ _ _).cell (j := 2) rfl
        have SL1 : Hid (Sl w7 (.slice none 0 0) ([] : List Int)) := .inl ⟨rfl, _, _, rfl⟩
        have SL2 := SL1
        have BL : Hid (([] : List Int).length ≤ 140737488355328) := Nat.zero_le _
        have P1 : Hid (Pts ((w7.alloc (.cells #[.int .i64 0, .int .i64 0, .slice none 0 0] 49)).alloc (.cells #[.int .i64 0, .int .i64 0, .slice none 0 0] 49)) (.slice (some ⟨w7.heap.size, 0, none⟩) 1 1) [(⟨0, 0, .slice none 0 0, ([] : List Int)⟩ : PtD)]) := (Pts.one w7 (⟨0, 0, .slice none 0 0, ([] : List Int)⟩ : PtD) _ SL1.out BL.out).chg ((Chg.refl _ _).alloc _)
        have P2 : Hid (Pts ((w7.alloc (.cells #[.int .i64 0, .int .i64 0, .slice none 0 0] 49)).alloc (.cells #[.int .i64 0, .int .i64 0, .slice none 0 0] 49)) (.slice (some ⟨(w7.alloc (.cells #[.int .i64 0, .int .i64 0, .slice none 0 0] 49)).heap.size, 0, none⟩) 1 1) [(⟨0, 0, .slice none 0 0, ([] : List Int)⟩ : PtD)]) := Pts.one (w7.alloc (.cells #[.int .i64 0, .int .i64 0, .slice none 0 0] 49)) (⟨0, 0, .slice none 0 0, ([] : List Int)⟩ : PtD) _ (SL2.out.chgNil ((Chg.refl _ _).alloc _)) BL.out
        have SM := Lib.hid (samePts_true _ _ _ _ ((w7.alloc (.cells #[.int .i64 0, .int .i64 0, .slice none 0 0] 49)).alloc (.cells #[.int .i64 0, .int .i64 0, .slice none 0 0] 49)) P1.out P2.out rfl (fun i p q hp hq => by
          have hi : i = 0 := by have := (List.getElem?_eq_some_iff.1 hp).1; simp at this; exact this
          subst hi
          obtain rfl := Option.some.inj hp
          obtain rfl := Option.some.inj hq
          exact ⟨rfl, rfl, rfl⟩))
        have e1 : (w7.alloc (.cells #[.int .i64 0, .int .i64 0, .slice none 0 0] 49)).heap.size = w7.heap.size + 1 := by simp
        rw [e1] at SM
        have H10 := Lib.hid (H9.out.quiet (((Chg.refl _ _).alloc (.cells #[.int .i64 0, .int .i64 0, .slice none 0 0] 49)).alloc (.cells #[.int .i64 0, .int .i64 0, .slice none 0 0] 49)))
        clear SL1 SL2 BL P1 P2 H9 e1
        go_wp2_with fail
        refine SM.out.mono ?_
        rintro e w8 ⟨rfl, q8, rfl⟩
        have SI2 : Hid (Sit C W (((w7.alloc (.cells #[.int .i64 0, .int .i64 0, .slice none 0 0] 49)).alloc (.cells #[.int .i64 0, .int .i64 0, .slice none 0 0] 49)).drewN q8) P Q b (k + 1) row (([] : List Pd)) F2 lv2 (([] : List Pv)) l02 l10 (vs ++ [(.slice none 0 0, ([] : List Value))]) us) := by
          refine ⟨List.Pairwise.nil, Rep.nil, fun x hx => (by cases hx), Nat.zero_le _, ?_, by have := SI.out.usl; omega, fun x hx => ?_, SI.out.usr, ?_⟩
          · rw [List.length_append, List.length_singleton]
            have := SI.out.vsl; omega
          · rcases List.mem_append.1 hx with hx | hx
            · exact SI.out.vsr x hx
            · rw [List.mem_singleton.1 hx]
              exact Nat.zero_le _
          · have h := (((H10.out.quiet ((Chg.refl _ _).drewN q8)).front 2).tail.front 5).tail
            exact (((((h.front 6).front 1).front 5).front 5).front 5).front 6
        clear SI SM H10 y0 y1 y2 z0 z1 z2
        generalize (((w7.alloc (.cells #[.int .i64 0, .int .i64 0, .slice none 0 0] 49)).alloc (.cells #[.int .i64 0, .int .i64 0, .slice none 0 0] 49)).drewN q8) = w9 at *
        generalize (vs ++ [(.slice none 0 0, ([] : List Value))]) = vs2 at *
        have p0 := (SI2.out.side.get 1 rfl : Blk _ _ _ _).cell (j := 0) rfl
        have p1 := (SI2.out.side.get 1 rfl : Blk _ _ _ _).cell (j := 1) rfl
        have OW := Lib.hid (show OwnW 3 w9 0 49 lv2 ((([] : List Pv)).map pvSlot) from SI2.out.side.get 2 rfl)
        obtain ⟨lo, lc, hlv⟩ := OW.out.slice
        rw [List.length_map, RP_len SI2.out.rep] at hlv
        rw [hlv] at p0
        replace hlv := Lib.hid hlv
        have s1 : Hid (∀ n, Calls Try.prog 22 #[.pointer (some ⟨P, 0, none⟩)] (w9.drewN n) fun e w' => e = .returned (.int .i64 ((([] : List Pd)).length : Int)) ∧ ∃ q, w' = (w9.drewN n).drewN q) := fun n => C.len _ P row (([] : List Pd)) F2 ((SI2.out.side.quiet ((Chg.refl [] _).drewN n)).get 0 rfl) (by show _ ≤ _; have := SI2.out.few; have := HN.out; have := HLT.out; omega)
        have s2 : Hid (∀ n, Calls Try.prog 23 #[.pointer (some ⟨P, 0, none⟩)] (w9.drewN n) fun e w' => e = .returned (.int .i64 (row : Int)) ∧ ∃ q, w' = (w9.drewN n).drewN q) := fun n => C.row _ P row (([] : List Pd)) F2 ((SI2.out.side.quiet ((Chg.refl [] _).drewN n)).get 0 rfl)
        have SE : Hid (∀ n, Sit C W (w9.drewN n) P Q b (k + 1) row (([] : List Pd)) F2 lv2 (([] : List Pv)) l02 l10 (vs2) (us)) := fun n => SI2.out.quiet n
        clear OW SI2
        generalize (([] : List Pd)).length = nS at *
        go_wp2_with fail
        go_quiet (first | (go_at_call 22; exact Calls.quiet_of (s1.out _)) | (go_at_call 23; exact Calls.quiet_of (s2.out _)))
        go_wp2_with fail
        exact ⟨⟨k + 1, row, ([] : List Pd), F2, lv2, ([] : List Pv), l02, l10, vs2, us, by have := HLT.out; omega, rfl, SE.out _⟩, by have := HLT.out; simp [intOf]; omega⟩
      · clear CX c0 cb
        obtain ⟨vo, vc, hv⟩ := owns_slice (show w5.ownsRow 0 e8 1 v (ub d.bs).length (ub d.bs) from H5.out.get 0 rfl)
        obtain ⟨N, hN⟩ : ∃ N, N = (ub d.bs).length := ⟨_, rfl⟩
        rw [← hN] at hv
        subst hv
        replace hN := Lib.hid hN
        have HW := Lib.hid hw
        have HD := Lib.hid hd
        clear hw hd
        have H6 : Hid (Side W (w5.alloc (.cells #[.int .i64 (d.m : Int), .int .i64 (d.r : Int), .slice vo N vc] 49)) [lfT Q lv row, listT lv L, dataT L, blkT w5.heap.size 49 [.int .i64 (d.m : Int), .int .i64 (d.r : Int), .slice vo N vc], ownT e8 (.slice vo N vc) (ub d.bs), C.T P (Lf.out d S) d.r F2, bytesT l0 vs, ptsRackT l10 us, ptBookT b l0 l10]) := by
          have h := H5.out.boxed [.int .i64 (d.m : Int), .int .i64 (d.r : Int), .slice vo N vc] 49
          exact ((h.front 5).front 5).front 5
        have RN := Lib.hid (refNext_any Q row lv L S SI.out.rep (by have := RP_len SI.out.rep; have := SI.out.few; have := HN.out; have := HLT.out; omega) H6.out)
        clear H5
        go_wp2_with fail
        generalize hX1 : w5.heap.size = X1 at *
        replace hX1 := Lib.hid hX1
        refine RN.out.mono ?_
        rintro e w6 (⟨hS, _⟩ | ⟨d2, v2, e9, lv2, L2, hw2, _, hr2, _, rfl, H7⟩)
        · exact absurd HD.out (by rw [hS]; simp)
        have ed : d = d2 := by
          have h := HW.out.symm.trans hw2
          exact (List.cons.inj h).1
        subst ed
        have R2 := Lib.hid hr2
        clear hw2 hr2 RN H6
        obtain ⟨vo2, vc2, hv2⟩ := owns_slice (show w6.ownsRow 0 e9 1 v2 (ub d.bs).length (ub d.bs) from H7.out.get 0 rfl)
        rw [← hN.out] at hv2
        subst hv2
        have H8 : Hid (Side W (w6.alloc (.cells #[.int .i64 (d.m : Int), .int .i64 (d.r : Int), .slice vo2 N vc2] 49)) [ownT e8 (.slice vo N vc) (ub d.bs), bytesT l0 vs, ptBookT b l0 l10, blkT w6.heap.size 49 [.int .i64 (d.m : Int), .int .i64 (d.r : Int), .slice vo2 N vc2], ownT e9 (.slice vo2 N vc2) (ub d.bs), lfT Q lv2 d.r, listT lv2 L2, dataT L2, blkT X1 49 [.int .i64 (d.m : Int), .int .i64 (d.r : Int), .slice vo N vc], C.T P (Lf.out d S) d.r F2, ptsRackT l10 us]) := by
          have h := H7.out.boxed [.int .i64 (d.m : Int), .int .i64 (d.r : Int), .slice vo2 N vc2] 49
          exact ((h.front 10).front 9).front 8
        clear H7
        have x2 := (H8.out.get 8 rfl : Blk _ _ _ _).cell (j := 2) rfl
        go_wp2_with fail
        generalize hX2 : w6.heap.size = X2 at *
        replace hX2 := Lib.hid hX2
        refine (bookBytes_pt H8.out (by have := SI.out.vsl; have := HN.out; have := HLT.out; omega)).mono ?_
        rintro e w7 ⟨rfl, l02, H9⟩
        clear H8 x2
        have y0 := (H9.out.get 7 rfl : Blk _ _ _ _).cell (j := 0) rfl
        have y1 := (H9.out.get 7 rfl : Blk _ _ _ _).cell (j := 1) rfl
        have y2 := (H9.out.get 7 rfl : Blk _ _ _ _).cell (j := 2) rfl
        have z0 := ((H9.out.quiet ((Chg.refl _ _).alloc (.cells #[.int .i64 (d.m : Int), .int .i64 (d.r : Int), .slice vo N vc] 49))).get 2 rfl : Blk _ _ _ _).cell (j := 0) rfl
        have z1 := ((H9.out.quiet ((Chg.refl _ _).alloc (.cells #[.int .i64 (d.m : Int), .int .i64 (d.r : Int), .slice vo N vc] 49))).get 2 rfl : Blk _ _ _ _).cell (j := 1) rfl
        have z2 := ((H9.out.quiet ((Chg.refl _ _).alloc (.cells #[.int .i64 (d.m : Int), .int .i64 (d.r : Int), .slice vo N vc] 49))).get 2 rfl : Blk _ _ _ _).cell (j := 2) rfl
        have SL1 : Hid (Sl w7 (.slice vo N vc) (ints d.bs)) := by
          obtain ⟨e1, ho⟩ := (H9.out.get 0 rfl : Rack w7 5 47 l02 _).row vs.length (.slice vo N vc) (ub d.bs) (by rw [List.getElem?_append_right (Nat.le_refl _), Nat.sub_self]; rfl)
          exact Sl.owned ho
        have SL2 : Hid (Sl w7 (.slice vo2 N vc2) (ints d.bs)) := H9.out.sl 3 rfl
        have BL : Hid ((ints d.bs).length ≤ 140737488355328) := by show _ ≤ _; rw [ints_length, SI.out.len d HD.out]; decide
        have P1 : Hid (Pts ((w7.alloc (.cells #[.int .i64 (d.m : Int), .int .i64 (d.r : Int), .slice vo N vc] 49)).alloc (.cells #[.int .i64 (d.m : Int), .int .i64 (d.r : Int), .slice vo2 N vc2] 49)) (.slice (some ⟨w7.heap.size, 0, none⟩) 1 1) [(⟨(d.m : Int), (d.r : Int), .slice vo N vc, ints d.bs⟩ : PtD)]) := (Pts.one w7 (⟨(d.m : Int), (d.r : Int), .slice vo N vc, ints d.bs⟩ : PtD) _ SL1.out BL.out).chg ((Chg.refl _ _).alloc _)
        have P2 : Hid (Pts ((w7.alloc (.cells #[.int .i64 (d.m : Int), .int .i64 (d.r : Int), .slice vo N vc] 49)).alloc (.cells #[.int .i64 (d.m : Int), .int .i64 (d.r : Int), .slice vo2 N vc2] 49)) (.slice (some ⟨(w7.alloc (.cells #[.int .i64 (d.m : Int), .int .i64 (d.r : Int), .slice vo N vc] 49)).heap.size, 0, none⟩) 1 1) [(⟨(d.m : Int), (d.r : Int), .slice vo2 N vc2, ints d.bs⟩ : PtD)]) := Pts.one (w7.alloc (.cells #[.int .i64 (d.m : Int), .int .i64 (d.r : Int), .slice vo N vc] 49)) (⟨(d.m : Int), (d.r : Int), .slice vo2 N vc2, ints d.bs⟩ : PtD) _ (SL2.out.chgNil ((Chg.refl _ _).alloc _)) BL.out
        have SM := Lib.hid (samePts_true _ _ _ _ ((w7.alloc (.cells #[.int .i64 (d.m : Int), .int .i64 (d.r : Int), .slice vo N vc] 49)).alloc (.cells #[.int .i64 (d.m : Int), .int .i64 (d.r : Int), .slice vo2 N vc2] 49)) P1.out P2.out rfl (fun i p q hp hq => by
          have hi : i = 0 := by have := (List.getElem?_eq_some_iff.1 hp).1; simp at this; exact this
          subst hi
          obtain rfl := Option.some.inj hp
          obtain rfl := Option.some.inj hq
          exact ⟨rfl, rfl, rfl⟩))
        have e1 : (w7.alloc (.cells #[.int .i64 (d.m : Int), .int .i64 (d.r : Int), .slice vo N vc] 49)).heap.size = w7.heap.size + 1 := by simp
        rw [e1] at SM
        have H10 := Lib.hid (H9.out.quiet (((Chg.refl _ _).alloc (.cells #[.int .i64 (d.m : Int), .int .i64 (d.r : Int), .slice vo N vc] 49)).alloc (.cells #[.int .i64 (d.m : Int), .int .i64 (d.r : Int), .slice vo2 N vc2] 49)))
        clear SL1 SL2 BL P1 P2 H9 e1
        go_wp2_with fail
        refine SM.out.mono ?_
        rintro e w8 ⟨rfl, q8, rfl⟩
        have SI2 : Hid (Sit C W (((w7.alloc (.cells #[.int .i64 (d.m : Int), .int .i64 (d.r : Int), .slice vo N vc] 49)).alloc (.cells #[.int .i64 (d.m : Int), .int .i64 (d.r : Int), .slice vo2 N vc2] 49)).drewN q8) P Q b (k + 1) d.r (Lf.out d S) F2 lv2 (L2) l02 l10 (vs ++ [(.slice vo N vc, ub d.bs)]) us) := by
          refine ⟨Lf.srt_out SI.out.srt, R2.out, fun x hx => SI.out.len x (Lf.mem_out.1 hx).1, by have := few_out (d := d) (S := S); have := SI.out.few; omega, ?_, by have := SI.out.usl; omega, fun x hx => ?_, SI.out.usr, ?_⟩
          · rw [List.length_append, List.length_singleton]
            have := SI.out.vsl; omega
          · rcases List.mem_append.1 hx with hx | hx
            · exact SI.out.vsr x hx
            · rw [List.mem_singleton.1 hx]
              show (ub d.bs).length ≤ 128; rw [ub_len, SI.out.len d HD.out]; exact Nat.le_refl _
          · have h := ((((H10.out.quiet ((Chg.refl _ _).drewN q8)).front 2).tail.front 2).tail.front 5).tail
            exact (((((h.front 6).front 1).front 5).front 5).front 5).front 6
        clear SI SM H10 y0 y1 y2 z0 z1 z2
        generalize (((w7.alloc (.cells #[.int .i64 (d.m : Int), .int .i64 (d.r : Int), .slice vo N vc] 49)).alloc (.cells #[.int .i64 (d.m : Int), .int .i64 (d.r : Int), .slice vo2 N vc2] 49)).drewN q8) = w9 at *
        generalize (vs ++ [(.slice vo N vc, ub d.bs)]) = vs2 at *
        generalize Lf.out d S = S2 at *
        have p0 := (SI2.out.side.get 1 rfl : Blk _ _ _ _).cell (j := 0) rfl
        have p1 := (SI2.out.side.get 1 rfl : Blk _ _ _ _).cell (j := 1) rfl
        have OW := Lib.hid (show OwnW 3 w9 0 49 lv2 ((L2).map pvSlot) from SI2.out.side.get 2 rfl)
        obtain ⟨lo, lc, hlv⟩ := OW.out.slice
        rw [List.length_map, RP_len SI2.out.rep] at hlv
        rw [hlv] at p0
        replace hlv := Lib.hid hlv
        have s1 : Hid (∀ n, Calls Try.prog 22 #[.pointer (some ⟨P, 0, none⟩)] (w9.drewN n) fun e w' => e = .returned (.int .i64 ((S2).length : Int)) ∧ ∃ q, w' = (w9.drewN n).drewN q) := fun n => C.len _ P d.r (S2) F2 ((SI2.out.side.quiet ((Chg.refl [] _).drewN n)).get 0 rfl) (by show _ ≤ _; have := SI2.out.few; have := HN.out; have := HLT.out; omega)
        have s2 : Hid (∀ n, Calls Try.prog 23 #[.pointer (some ⟨P, 0, none⟩)] (w9.drewN n) fun e w' => e = .returned (.int .i64 (d.r : Int)) ∧ ∃ q, w' = (w9.drewN n).drewN q) := fun n => C.row _ P d.r (S2) F2 ((SI2.out.side.quiet ((Chg.refl [] _).drewN n)).get 0 rfl)
        have SE : Hid (∀ n, Sit C W (w9.drewN n) P Q b (k + 1) d.r (S2) F2 lv2 (L2) l02 l10 (vs2) (us)) := fun n => SI2.out.quiet n
        clear OW SI2
        generalize (S2).length = nS at *
        go_wp2_with fail
        go_quiet (first | (go_at_call 22; exact Calls.quiet_of (s1.out _)) | (go_at_call 23; exact Calls.quiet_of (s2.out _)))
        go_wp2_with fail
        exact ⟨⟨k + 1, d.r, S2, F2, lv2, L2, l02, l10, vs2, us, by have := HLT.out; omega, rfl, SE.out _⟩, by have := HLT.out; simp [intOf]; omega⟩
    · replace eq8 : Int.tmod kd 8 = 6 := eq8
      have CA := Lib.hid (C.all W wr _ P row S F SI.out.srt (by show _ ≤ _; have := SI.out.few; have := HN.out; have := HLT.out; omega) SI.out.side)
      clear c0 c1 c2 c3
      have c0 := (DC.out _ SI.out.side.chg).1
      have cb := (DC.out _ SI.out.side.chg).2.2.2.1
      go_wp2_with fail
      refine CA.out.mono ?_
      rintro e w5 ⟨v, A, F2, rfl, WA, H5⟩
      clear CA c0 cb
      have H5b : Hid (Side W w5 [lfT Q lv row, listT lv L, dataT L, C.T P [] (Lf.stop row (Lf.way row S)) F2, listT v A, dataT A, bytesT l0 vs, ptsRackT l10 us, ptBookT b l0 l10]) := ((H5.out.front 5).front 5).front 5
      clear H5
      have RA := Lib.hid (refAll_any Q row lv L S SI.out.rep (by have := SI.out.few; have := HN.out; have := HLT.out; omega) H5b.out)
      obtain ⟨ao, ac, hav⟩ := (show OwnW 3 w5 0 49 v (A.map pvSlot) from H5b.out.get 4 rfl).slice
      rw [List.length_map] at hav
      subst hav
      go_wp2_with fail
      refine RA.out.mono ?_
      rintro e w6 ⟨v2, A2, lv2, rfl, WA2, H6⟩
      clear RA H5b
      have LA : Hid (A.length = S.length) := by have h := congrArg List.length WA.out; unfold dOf at h; rw [List.length_map, Lf.way_len] at h; exact h
      have LA2 : Hid (A2.length = A.length) := by have h := congrArg List.length WA2.out; unfold dOf at h; rw [List.length_map, Lf.way_len] at h; exact h.trans LA.out.symm
      obtain ⟨bo, bc, hbv⟩ := (show OwnW 3 w6 0 49 v2 (A2.map pvSlot) from H6.out.get 3 rfl).slice
      rw [List.length_map, LA2.out] at hbv
      subst hbv
      have B128 : Hid (∀ p ∈ A, p.1.bs.length = 128) := fun p hp => SI.out.len p.1 (Lf.mem_way.1 (by rw [← WA.out]; exact List.mem_map.2 ⟨p, hp, rfl⟩))
      have B2128 : Hid (∀ p ∈ A2, p.1.bs.length = 128) := fun p hp => SI.out.len p.1 (Lf.mem_way.1 (by rw [← WA2.out]; exact List.mem_map.2 ⟨p, hp, rfl⟩))
      have H7 : Hid (Side W w6 [wideT 3 49 (.slice ao A.length ac) ((A.map toPm).map pmSlot), poolT ((A.map toPm).map (·.2)), bytesT l0 vs, ptsRackT l10 us, ptBookT b l0 l10, C.T P [] (Lf.stop row (Lf.way row S)) F2, lfT Q lv2 (Lf.stop row (Lf.way row S)), listT lv2 [], dataT [], listT (.slice bo A.length bc) A2, dataT A2]) := by
        rw [toPm_slots, toPm_rows]
        exact (((((H6.out.front 5).front 10).front 10).front 10).front 10).front 10
      clear H6
      go_wp2_with fail
      refine (bookPts_side H7.out (by rw [List.length_map, LA.out]; have := SI.out.vsl; have := SI.out.few; have := HN.out; have := HLT.out; omega) (by have := SI.out.usl; have := HN.out; have := HLT.out; omega)).mono ?_
      rintro e w7 ⟨rfl, l02, l12, H8⟩
      clear H7
      have PA : Hid (Pts w7 (.slice ao A.length ac) (A.map toPt)) := by
        have ho := (H8.out.get 1 rfl : RackW 3 w7 49 56 l12 _).row us.length _ _ (by rw [List.getElem?_append_right (Nat.le_refl _), Nat.sub_self]; rfl)
        rw [toPm_slots] at ho
        refine pts_of2 ho (fun p hp => ?_) (by have := LA.out; have := SI.out.few; have := HN.out; have := HLT.out; omega) (fun p hp => by rw [B128.out p hp]; decide)
        obtain ⟨j, hj⟩ := List.mem_iff_getElem?.1 hp
        refine (H8.out.get 0 rfl : Rack w7 5 47 l02 _).row (vs.length + j) p.2 (ub p.1.bs) ?_
        rw [List.getElem?_append_right (by omega), Nat.add_sub_cancel_left, toPm_rows, List.getElem?_map, hj]
        rfl
      have PB : Hid (Pts w7 (.slice bo A.length bc) (A2.map toPt)) := pts_of (H8.out.get 7 rfl) (H8.out.get 8 rfl) (by have := LA.out; have := LA2.out; have := SI.out.few; have := HN.out; have := HLT.out; omega) (fun p hp => by rw [B2128.out p hp]; decide)
      have SM := Lib.hid (samePts_true _ _ _ _ w7 PA.out PB.out (by rw [List.length_map, List.length_map, LA2.out]) (alike_of (by rw [WA.out, WA2.out])))
      have SI3 : Hid (∀ n, Sit C W (w7.drewN n) P Q b (k + 1) (Lf.stop row (Lf.way row S)) ([] : List Pd) F2 lv2 ([] : List Pv) l02 l12 (vs ++ (A.map toPm).map (·.2)) (us ++ [(.slice ao A.length ac, (A.map toPm).map pmSlot)])) := fun n => by
        refine ⟨List.Pairwise.nil, Rep.nil, fun d hd => (by cases hd), Nat.zero_le _, ?_, ?_, fun p hp => ?_, fun p hp => ?_, ?_⟩
        · rw [List.length_append, List.length_map, List.length_map, LA.out]
          have := SI.out.vsl; have := SI.out.few; have := HN.out; have := HLT.out; omega
        · rw [List.length_append, List.length_singleton]
          have := SI.out.usl; omega
        · rcases List.mem_append.1 hp with hp | hp
          · exact SI.out.vsr p hp
          · rw [toPm_rows] at hp
            obtain ⟨x, hx, rfl⟩ := List.mem_map.1 hp
            show (ub x.1.bs).length ≤ 128
            rw [ub_len, B128.out x hx]
            exact Nat.le_refl _
        · rcases List.mem_append.1 hp with hp | hp
          · exact SI.out.usr p hp
          · rw [List.mem_singleton.1 hp]
            show ((A.map toPm).map pmSlot).length ≤ 400
            rw [List.length_map, List.length_map, LA.out]
            have := SI.out.few; have := HN.out; have := HLT.out; omega
        · have h := (H8.out.quiet ((Chg.refl _ _).drewN n)).sub (us := [bytesT l02 (vs ++ (A.map toPm).map (·.2)), ptsRackT l12 (us ++ [(.slice ao A.length ac, (A.map toPm).map pmSlot)]), ptBookT b l02 l12, C.T P [] (Lf.stop row (Lf.way row S)) F2, lfT Q lv2 (Lf.stop row (Lf.way row S)), listT lv2 [], dataT []]) (List.sublist_append_left (l₁ := [_, _, _, _, _, _, _]) (l₂ := [_, _]))
          exact (((h.front 6).front 6).front 6).front 6
      clear SI PA PB H8 LA LA2 B128 B2128 WA WA2
      go_wp2_with fail
      refine SM.out.mono ?_
      rintro e w8 ⟨rfl, q8, rfl⟩
      have SI2 : Hid (Sit C W (w7.drewN q8) P Q b (k + 1) (Lf.stop row (Lf.way row S)) ([] : List Pd) F2 lv2 ([] : List Pv) l02 l12 (vs ++ (A.map toPm).map (·.2)) (us ++ [(.slice ao A.length ac, (A.map toPm).map pmSlot)])) := SI3.out q8
      clear SI3 SM
      generalize w7.drewN q8 = w9 at *
      generalize Lf.stop row (Lf.way row S) = row2 at *
      generalize vs ++ (A.map toPm).map (·.2) = vs2 at *
      generalize us ++ [(.slice ao A.length ac, (A.map toPm).map pmSlot)] = us2 at *
      have p0 := (SI2.out.side.get 1 rfl : Blk _ _ _ _).cell (j := 0) rfl
      have p1 := (SI2.out.side.get 1 rfl : Blk _ _ _ _).cell (j := 1) rfl
      have OW := Lib.hid (show OwnW 3 w9 0 49 lv2 ((([] : List Pv)).map pvSlot) from SI2.out.side.get 2 rfl)
      obtain ⟨lo, lc, hlv⟩ := OW.out.slice
      rw [List.length_map, RP_len SI2.out.rep] at hlv
      rw [hlv] at p0
      replace hlv := Lib.hid hlv
      have s1 : Hid (∀ n, Calls Try.prog 22 #[.pointer (some ⟨P, 0, none⟩)] (w9.drewN n) fun e w' => e = .returned (.int .i64 ((([] : List Pd)).length : Int)) ∧ ∃ q, w' = (w9.drewN n).drewN q) := fun n => C.len _ P row2 (([] : List Pd)) F2 ((SI2.out.side.quiet ((Chg.refl [] _).drewN n)).get 0 rfl) (by show _ ≤ _; have := SI2.out.few; have := HN.out; have := HLT.out; omega)
      have s2 : Hid (∀ n, Calls Try.prog 23 #[.pointer (some ⟨P, 0, none⟩)] (w9.drewN n) fun e w' => e = .returned (.int .i64 (row2 : Int)) ∧ ∃ q, w' = (w9.drewN n).drewN q) := fun n => C.row _ P row2 (([] : List Pd)) F2 ((SI2.out.side.quiet ((Chg.refl [] _).drewN n)).get 0 rfl)
      have SE : Hid (∀ n, Sit C W (w9.drewN n) P Q b (k + 1) row2 (([] : List Pd)) F2 lv2 (([] : List Pv)) l02 l12 (vs2) (us2)) := fun n => SI2.out.quiet n
      clear OW SI2
      generalize (([] : List Pd)).length = nS at *
      go_wp2_with fail
      go_quiet (first | (go_at_call 22; exact Calls.quiet_of (s1.out _)) | (go_at_call 23; exact Calls.quiet_of (s2.out _)))
      go_wp2_with fail
      exact ⟨⟨k + 1, row2, ([] : List Pd), F2, lv2, ([] : List Pv), l02, l12, vs2, us2, by have := HLT.out; omega, rfl, SE.out _⟩, by have := HLT.out; simp [intOf]; omega⟩
    · replace eq8 : Int.tmod kd 8 = 7 := eq8
      have SI2 : Hid (Sit C W wr P Q b (k + 1) row S F lv L l0 l10 vs us) := ⟨SI.out.srt, SI.out.rep, SI.out.len, by have := SI.out.few; omega, by have := SI.out.vsl; omega, by have := SI.out.usl; omega, SI.out.vsr, SI.out.usr, SI.out.side⟩
      clear SI
      have p0 := (SI2.out.side.get 1 rfl : Blk _ _ _ _).cell (j := 0) rfl
      have p1 := (SI2.out.side.get 1 rfl : Blk _ _ _ _).cell (j := 1) rfl
      have OW := Lib.hid (show OwnW 3 wr 0 49 lv ((L).map pvSlot) from SI2.out.side.get 2 rfl)
      obtain ⟨lo, lc, hlv⟩ := OW.out.slice
      rw [List.length_map, RP_len SI2.out.rep] at hlv
      rw [hlv] at p0
      replace hlv := Lib.hid hlv
      have s1 : Hid (∀ n, Calls Try.prog 22 #[.pointer (some ⟨P, 0, none⟩)] (wr.drewN n) fun e w' => e = .returned (.int .i64 ((S).length : Int)) ∧ ∃ q, w' = (wr.drewN n).drewN q) := fun n => C.len _ P row (S) F ((SI2.out.side.quiet ((Chg.refl [] _).drewN n)).get 0 rfl) (by show _ ≤ _; have := SI2.out.few; have := HN.out; have := HLT.out; omega)
      have s2 : Hid (∀ n, Calls Try.prog 23 #[.pointer (some ⟨P, 0, none⟩)] (wr.drewN n) fun e w' => e = .returned (.int .i64 (row : Int)) ∧ ∃ q, w' = (wr.drewN n).drewN q) := fun n => C.row _ P row (S) F ((SI2.out.side.quiet ((Chg.refl [] _).drewN n)).get 0 rfl)
      have SE : Hid (∀ n, Sit C W (wr.drewN n) P Q b (k + 1) row (S) F lv (L) l0 l10 (vs) (us)) := fun n => SI2.out.quiet n
      clear OW SI2
      generalize (S).length = nS at *
      go_wp2_with fail
      go_quiet (first | (go_at_call 22; exact Calls.quiet_of (s1.out _)) | (go_at_call 23; exact Calls.quiet_of (s2.out _)))
      go_wp2_with fail
      exact ⟨⟨k + 1, row, S, F, lv, L, l0, l10, vs, us, by have := HLT.out; omega, rfl, SE.out _⟩, by have := HLT.out; simp [intOf]; omega⟩
    · have e5 : ((q : Int) == 5) = false := by simp; omega
      have e6 : ((q : Int) == 6) = false := by simp; omega
      have e7 : ((q : Int) == 7) = false := by simp; omega
      clear n5 n6 n7 hq8
      have PT0 : Hid (Pts (wr.alloc (.cells #[.int .i64 pm, .int .i64 pr, .slice po pd.length pc] 49)) (.slice (some ⟨wr.heap.size, 0, none⟩) 1 1) [⟨pm, pr, .slice po pd.length pc, pd⟩]) := Pts.one wr ⟨pm, pr, .slice po pd.length pc, pd⟩ _ (DC.out _ SI.out.side.chg).2.2.2.2 (by have := HBIG.out; show pd.length ≤ _; omega)
      have LT := Lib.hid (lentPts_any _ _ _ PT0.out (by simp))
      go_wp2_with fail
      refine LT.out.mono ?_
      rintro e w5 ⟨G, gs, rfl, LD, D⟩
      have H5 : Hid (Side W w5 [lendT (wr.alloc (.cells #[.int .i64 pm, .int .i64 pr, .slice po pd.length pc] 49)) G gs [⟨pm, pr, .slice po pd.length pc, pd⟩], C.T P S row F, lfT Q lv row, listT lv L, dataT L, bytesT l0 vs, ptsRackT l10 us, ptBookT b l0 l10]) :=
        (SI.out.side.quiet ((Chg.refl _ _).alloc (.cells #[.int .i64 pm, .int .i64 pr, .slice po pd.length pc] 49))).add D.out LD.out (fun k hk => by
          rcases List.mem_cons.1 hk with e | hk
          · rw [e]; exact LD.out.newG
          · exact LD.out.rows.new k hk)
      obtain ⟨g, hg, d0, d1, d2, GB⟩ := LD.out.head (i := 0) (p := ⟨pm, pr, .slice po pd.length pc, pd⟩) rfl
      dsimp only at d0 d1 d2 GB
      have SG := Lib.hid (Blk.sl (n := pd.length + 2) GB)
      have gF : Hid (g ∈ (lendT (wr.alloc (.cells #[.int .i64 pm, .int .i64 pr, .slice po pd.length pc] 49)) G gs [⟨pm, pr, .slice po pd.length pc, pd⟩]).F) := List.mem_cons_of_mem _ (List.mem_of_getElem? hg)
      clear PT0 LT LD D hg GB c0 c1 c2 c3
      generalize (wr.alloc (.cells #[.int .i64 pm, .int .i64 pr, .slice po pd.length pc] 49)) = wL at *
      simp only [Nat.zero_mul, Nat.zero_add] at d0 d1 d2
      rcases puts pm pr pd BY.out with ⟨er, hrf, er0, er1⟩ | ⟨d, rfl, rfl, rfl, hm, hr, hb⟩
      · have CPN := Lib.hid (C.put_no W w5 _ P row S F pm pr (some ⟨g, 0, none⟩) pd.length (pd.length + 2) er hrf (H5.out.front 1))
        have WE := Lib.hid (wrap_in (z := er) (by omega) (by omega))
        go_wp2_with fail
        refine CPN.out.mono ?_
        rintro e w6 ⟨rfl, D6⟩
        have H6 := Lib.hid (H5.out.quiet D6.out)
        clear CPN D6 H5 d0 d1 d2
        obtain ⟨c0, c1, c2, c3, _⟩ := DC.out _ H6.out.chg
        go_wp2_with fail
        refine (refPut_no w6 Q pm pr po pd.length pc er hrf).mono ?_
        rintro e w7 ⟨rfl, D7⟩
        have H7 := Lib.hid (H6.out.quiet D7.out)
        clear D7 H6 c0 c1 c2 c3 hrf er0 er1
        have PT7 : Hid (Pts (w7.alloc (.cells #[.int .i64 pm, .int .i64 pr, .slice po pd.length pc] 49)) (.slice (some ⟨w7.heap.size, 0, none⟩) 1 1) [⟨pm, pr, .slice po pd.length pc, pd⟩]) := Pts.one w7 ⟨pm, pr, .slice po pd.length pc, pd⟩ _ (DC.out _ H7.out.chg).2.2.2.2 (show pd.length ≤ _ from Nat.le_trans HBIG.out (by decide))
        have H8 := Lib.hid (H7.out.quiet ((Chg.refl _ _).alloc (.cells #[.int .i64 pm, .int .i64 pr, .slice po pd.length pc] 49)))
        have WP := Lib.hid (wholePts_any wL G gs [⟨pm, pr, .slice po pd.length pc, pd⟩] _ _ (H8.out.get 0 rfl) PT7.out (by simp))
        obtain ⟨c0, c1, c2, c3, _⟩ := DC.out _ H7.out.chg
        go_wp2_with fail
        refine WP.out.mono ?_
        rintro e w8 ⟨rfl, D8⟩
        have H9 := Lib.hid (H8.out.quiet D8.out)
        clear PT7 H7 H8 WP D8 c0 c1 c2 c3
        have SPO := Lib.hid (spoilPts_any wL G gs [⟨pm, pr, .slice po pd.length pc, pd⟩] w8 (H9.out.get 0 rfl) (by simp) (fun x hx => by rw [List.mem_singleton.1 hx]; exact (show pd.length ≤ _ from Nat.le_trans HBIG.out (by decide))))
        go_wp2_with fail
        refine SPO.out.mono ?_
        rintro e w9 ⟨rfl, D9⟩
        have H10 := Lib.hid (H9.out.gone D9.out (fun k hk => hk))
        clear H9 SPO D9 SG gF
        have SI2 : Hid (Sit C W w9 P Q b (k + 1) row S F lv L l0 l10 vs us) := ⟨SI.out.srt, SI.out.rep, SI.out.len, by have := SI.out.few; omega, by have := SI.out.vsl; omega, by have := SI.out.usl; omega, SI.out.vsr, SI.out.usr, H10.out⟩
        clear SI H10
        obtain ⟨we1, we2⟩ := WE.out
        have p0 := (SI2.out.side.get 1 rfl : Blk _ _ _ _).cell (j := 0) rfl
        have p1 := (SI2.out.side.get 1 rfl : Blk _ _ _ _).cell (j := 1) rfl
        have OW := Lib.hid (show OwnW 3 w9 0 49 lv ((L).map pvSlot) from SI2.out.side.get 2 rfl)
        obtain ⟨lo, lc, hlv⟩ := OW.out.slice
        rw [List.length_map, RP_len SI2.out.rep] at hlv
        rw [hlv] at p0
        replace hlv := Lib.hid hlv
        have s1 : Hid (∀ n, Calls Try.prog 22 #[.pointer (some ⟨P, 0, none⟩)] (w9.drewN n) fun e w' => e = .returned (.int .i64 ((S).length : Int)) ∧ ∃ q, w' = (w9.drewN n).drewN q) := fun n => C.len _ P row (S) F ((SI2.out.side.quiet ((Chg.refl [] _).drewN n)).get 0 rfl) (by show _ ≤ _; have := SI2.out.few; have := HN.out; have := HLT.out; omega)
        have s2 : Hid (∀ n, Calls Try.prog 23 #[.pointer (some ⟨P, 0, none⟩)] (w9.drewN n) fun e w' => e = .returned (.int .i64 (row : Int)) ∧ ∃ q, w' = (w9.drewN n).drewN q) := fun n => C.row _ P row (S) F ((SI2.out.side.quiet ((Chg.refl [] _).drewN n)).get 0 rfl)
        have SE : Hid (∀ n, Sit C W (w9.drewN n) P Q b (k + 1) row (S) F lv (L) l0 l10 (vs) (us)) := fun n => SI2.out.quiet n
        clear OW SI2
        generalize (S).length = nS at *
        go_wp2_with fail
        go_quiet (first | (go_at_call 22; exact Calls.quiet_of (s1.out _)) | (go_at_call 23; exact Calls.quiet_of (s2.out _)))
        go_wp2_with fail
        exact ⟨⟨k + 1, row, S, F, lv, L, l0, l10, vs, us, by have := HLT.out; omega, rfl, SE.out _⟩, by have := HLT.out; simp [intOf]; omega⟩
      · have CP := Lib.hid (C.put_ok W w5 _ P row S F d (.slice (some ⟨g, 0, none⟩) (ints d.bs).length ((ints d.bs).length + 2)) hm hr hb SG.out BY.out (fun x hx hF => by
          have e : g = x := by simpa [Value.ownBlock] using hx
          subst e
          exact H5.out.offAt 0 1 rfl rfl (by decide) g gF.out hF) SI.out.srt (by show _ ≤ _; have := SI.out.few; have := HN.out; have := HLT.out; omega) (H5.out.front 1))
        have OFF : Hid (∀ x, (Value.slice po (ints d.bs).length pc).ownBlock = some x → Off x Q lv L) := fun x hx => by
          have h1 := (DC.out W (Chg.refl _ _)).2.2.2.2.lt (by rw [ints_length, hb]; decide) x hx
          have n1 := SI.out.side.new (lfT Q lv row) (by simp)
          have n2 := SI.out.side.new (listT lv L) (by simp)
          have n3 := SI.out.side.new (dataT L) (by simp)
          refine ⟨fun e => ?_, fun e => ?_, fun e => ?_⟩
          · have := n1 x (by rw [e]; simp [lfT, blkT]); omega
          · have := n2 x (by show x ∈ lv.ownBlock.toList; simp [e]); omega
          · have := n3 x e; omega
        have HB := Lib.hid hb
        have HM : Hid (d.m ≤ 15 ∧ d.r ≤ 4095) := ⟨hm, hr⟩
        clear hb hm hr
        go_wp2_with fail
        refine CP.out.mono ?_
        rintro e w6 ⟨rfl, F2, H6⟩
        clear CP H5 d0 d1 d2
        have H6b : Hid (Side W w6 [lfT Q lv row, listT lv L, dataT L, C.T P (Lf.ins d S) row F2, lendT wL G gs [⟨(d.m : Int), (d.r : Int), .slice po (ints d.bs).length pc, ints d.bs⟩], bytesT l0 vs, ptsRackT l10 us, ptBookT b l0 l10]) := ((H6.out.front 4).front 4).front 4
        clear H6
        obtain ⟨c0, c1, c2, c3, sl6⟩ := DC.out _ H6b.out.chg
        have RP := Lib.hid (refPut_ok Q row lv L d (.slice po (ints d.bs).length pc) S HM.out.1 HM.out.2 HB.out sl6 OFF.out SI.out.rep (by have := RP_len SI.out.rep; have := SI.out.few; have := HN.out; have := HLT.out; omega) H6b.out)
        clear sl6
        go_wp2_with fail
        refine RP.out.mono ?_
        rintro e w7 ⟨rfl, lv2, L2, RR, H7⟩
        have H7b : Hid (Side W w7 [lendT wL G gs [⟨(d.m : Int), (d.r : Int), .slice po (ints d.bs).length pc, ints d.bs⟩], C.T P (Lf.ins d S) row F2, lfT Q lv2 row, listT lv2 L2, dataT L2, bytesT l0 vs, ptsRackT l10 us, ptBookT b l0 l10]) := (H7.out.front 3).front 4
        clear H7
        have H7 := H7b
        clear H7b H6b RP c0 c1 c2 c3 OFF
        have PT7 : Hid (Pts (w7.alloc (.cells #[.int .i64 (d.m : Int), .int .i64 (d.r : Int), .slice po (ints d.bs).length pc] 49)) (.slice (some ⟨w7.heap.size, 0, none⟩) 1 1) [⟨(d.m : Int), (d.r : Int), .slice po (ints d.bs).length pc, ints d.bs⟩]) := Pts.one w7 ⟨(d.m : Int), (d.r : Int), .slice po (ints d.bs).length pc, ints d.bs⟩ _ (DC.out _ H7.out.chg).2.2.2.2 (show (ints d.bs).length ≤ _ from Nat.le_trans HBIG.out (by decide))
        have H8 := Lib.hid (H7.out.quiet ((Chg.refl _ _).alloc (.cells #[.int .i64 (d.m : Int), .int .i64 (d.r : Int), .slice po (ints d.bs).length pc] 49)))
        have WP := Lib.hid (wholePts_any wL G gs [⟨(d.m : Int), (d.r : Int), .slice po (ints d.bs).length pc, ints d.bs⟩] _ _ (H8.out.get 0 rfl) PT7.out (by simp))
        obtain ⟨c0, c1, c2, c3, _⟩ := DC.out _ H7.out.chg
        go_wp2_with fail
        refine WP.out.mono ?_
        rintro e w8 ⟨rfl, D8⟩
        have H9 := Lib.hid (H8.out.quiet D8.out)
        clear PT7 H7 H8 WP D8 c0 c1 c2 c3
        have SPO := Lib.hid (spoilPts_any wL G gs [⟨(d.m : Int), (d.r : Int), .slice po (ints d.bs).length pc, ints d.bs⟩] w8 (H9.out.get 0 rfl) (by simp) (fun x hx => by rw [List.mem_singleton.1 hx]; exact (show (ints d.bs).length ≤ _ from Nat.le_trans HBIG.out (by decide))))
        go_wp2_with fail
        refine SPO.out.mono ?_
        rintro e w9 ⟨rfl, D9⟩
        have H10 := Lib.hid (H9.out.gone D9.out (fun k hk => hk))
        clear H9 SPO D9 SG gF
        have SI2 : Hid (Sit C W w9 P Q b (k + 1) row (Lf.ins d S) F2 lv2 L2 l0 l10 vs us) := ⟨Lf.srt_ins SI.out.srt, RR.out, fun x hx => by
            rcases (Lf.mem_ins SI.out.srt).1 hx with e | ⟨hx, _⟩
            · rw [e]; exact HB.out
            · exact SI.out.len x hx, Nat.le_trans few_ins (Nat.succ_le_succ SI.out.few), by have := SI.out.vsl; omega, by have := SI.out.usl; omega, SI.out.vsr, SI.out.usr, H10.out⟩
        clear SI H10 RR
        have p0 := (SI2.out.side.get 1 rfl : Blk _ _ _ _).cell (j := 0) rfl
        have p1 := (SI2.out.side.get 1 rfl : Blk _ _ _ _).cell (j := 1) rfl
        have OW := Lib.hid (show OwnW 3 w9 0 49 lv2 ((L2).map pvSlot) from SI2.out.side.get 2 rfl)
        obtain ⟨lo, lc, hlv⟩ := OW.out.slice
        rw [List.length_map, RP_len SI2.out.rep] at hlv
        rw [hlv] at p0
        replace hlv := Lib.hid hlv
        have s1 : Hid (∀ n, Calls Try.prog 22 #[.pointer (some ⟨P, 0, none⟩)] (w9.drewN n) fun e w' => e = .returned (.int .i64 ((Lf.ins d S).length : Int)) ∧ ∃ q, w' = (w9.drewN n).drewN q) := fun n => C.len _ P row (Lf.ins d S) F2 ((SI2.out.side.quiet ((Chg.refl [] _).drewN n)).get 0 rfl) (by show _ ≤ _; have := SI2.out.few; have := HN.out; have := HLT.out; omega)
        have s2 : Hid (∀ n, Calls Try.prog 23 #[.pointer (some ⟨P, 0, none⟩)] (w9.drewN n) fun e w' => e = .returned (.int .i64 (row : Int)) ∧ ∃ q, w' = (w9.drewN n).drewN q) := fun n => C.row _ P row (Lf.ins d S) F2 ((SI2.out.side.quiet ((Chg.refl [] _).drewN n)).get 0 rfl)
        have SE : Hid (∀ n, Sit C W (w9.drewN n) P Q b (k + 1) row (Lf.ins d S) F2 lv2 (L2) l0 l10 (vs) (us)) := fun n => SI2.out.quiet n
        clear OW SI2
        generalize (Lf.ins d S).length = nS at *
        go_wp2_with fail
        go_quiet (first | (go_at_call 22; exact Calls.quiet_of (s1.out _)) | (go_at_call 23; exact Calls.quiet_of (s2.out _)))
        go_wp2_with fail
        exact ⟨⟨k + 1, row, Lf.ins d S, F2, lv2, L2, l0, l10, vs, us, by have := HLT.out; omega, rfl, SE.out _⟩, by have := HLT.out; simp [intOf]; omega⟩

theorem liftDoes_walk (C : LiftCons) (row : Int) (v : Value) (ds : List LActD) (W : World) (hd : LActs W v ds) : Calls Try.prog 3 #[.int .i64 row, v] W (Holds W) := by
  by_cases h : row < 0 ∨ 4095 < row
  · exact liftDoes_no C row h v W
  · obtain ⟨r, rfl⟩ : ∃ r : Nat, row = r := ⟨row.toNat, by omega⟩
    exact liftDoes_ok C r (by omega) v ds W hd

end Go.Proofs.Ytihmegpcbpdipaa
