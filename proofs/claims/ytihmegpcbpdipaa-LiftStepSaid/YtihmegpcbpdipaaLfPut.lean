/-
  The program's Put. By an AI agent.
-/
import Derived.Test.YtihmegpcbpdipaaLfLift
import Derived.Test.YtihmegpcbpdipaaGArr
import Derived.Test.YtihmegpcbpdipaaRefLift4
namespace Go.Proofs.Ytihmegpcbpdipaa
open Go.Maps Go.RowKit

/-- The map has one more, or another one: a lift. -/
theorem put_fin {w W : World} {P row mb Y X : Nat} {va vb : Value} {S : List Pd} {A B : List Pl} {F : List Nat} {d : Pd} {y x : List Value} (H : Side (noHeap w) W [blkT Y 78 y, blkT X 49 x, lbT P (lcells row va vb mb), plT va A, plT vb B, mapT mb S, restT w F]) (hI : Inv row (Lf.ins d S) A B) (hS : Lf.Srt S) (hd : PdOk d) :
    ∃ D : DataW Value, W.ownsMap Try.prog 78 heldR mb S.length D ∧ ∀ wm, wm.ownsMap Try.prog 78 heldR mb (S.length + 1) (D.put (plKey (pl d)) (.held (sect d))) → Chg [mb] W wm → Turns w F (LiftT P (Lf.ins d S) row) wm := by
  obtain ⟨D, hD, hM⟩ := (H.get 5 rfl : MapIn _ _ _)
  refine ⟨D, hD, fun wm ho hg => turns_of ?_⟩
  have hm : MapIn wm mb (Lf.ins d S) := MapIn.of ho (hM.put (hD.tidy place_law) hS hd)
  have H2 := H.turnAt 5 rfl (b := mapT mb (Lf.ins d S)) hg (fun k hk => .inl hk) hm (fun k hk => .inl hk)
  exact Side.pack hI (H2.sub ((List.sublist_cons_self _ _).trans (List.sublist_cons_self _ _)))

theorem map_block {w : World} {mb n g o : Nat} {D : DataW Value} {v : Value} (h : w.ownsMap Try.prog 78 heldR mb n D) (hc : w.cell? ⟨g, o, none⟩ = some v) : g ≠ mb := fun e => by
  subst e
  obtain ⟨es, clock, hb, _⟩ := h
  simp [World.cell?, hb] at hc

theorem run_sector_at (w : World) (ao : Option Addr) (c : Nat) : (Instr.arrayAt 85 (.slice ao 128 c)).run Try.prog w = .ok (.pointer ao) w := by
  simp [Instr.arrayAt, run_underlying Try.underlying85]

theorem sector_range {w : World} {ao : Option Addr} {c : Nat} {bs : List Nat} (h : Sl w (.slice ao 128 c) (ints bs)) (hl : bs.length = 128) : ∃ g o, ao = some ⟨g, o, none⟩ ∧ w.rangeAt g o (ub bs) := by
  rcases h with ⟨h0, _⟩ | ⟨b, o, c', hv, hb, hc⟩
  · have := congrArg List.length h0
    rw [ints_length, hl] at this
    cases this
  · obtain ⟨rfl, -, -⟩ : ao = some ⟨b, o, none⟩ ∧ 128 = (ints bs).length ∧ c = c' := by simpa using hv
    refine ⟨b, o, rfl, fun j v hj => ?_⟩
    have hjl : j < (ints bs).length := by have := (List.getElem?_eq_some_iff.1 hj).1; rw [ub_len] at this; rw [ints_length]; exact this
    rw [hc j hjl]
    rw [← hj]
    unfold ub
    rw [List.getElem?_map, List.getD_eq_getElem?_getD, List.getElem?_eq_getElem hjl]
    rfl

theorem size_sector : (Try.prog.info? 85).map (·.size) = some 128 := by kernel_rfl

set_option maxHeartbeats 4000000 in
set_option maxRecDepth 100000 in
theorem lput_ok (w : World) (P row : Nat) (S : List Pd) (F : List Nat) (d : Pd) (dv : Value) (hd : PdOk d) (hsl : Sl w dv (ints d.bs)) (hoff : ∀ g, dv.ownBlock = some g → g ∉ F) (hfew : S.length ≤ 100000) (h : LRep P S row F w) :
    Calls Try.prog 18 #[.pointer (some ⟨P, 0, none⟩), .agg #[.int .i64 (d.m : Int), .int .i64 (d.r : Int), dv]] w fun e w' => e = .returned (.int .u16 0) ∧ Hid (Turns w F (LiftT P (Lf.ins d S) row) w') := by
  obtain ⟨va, vb, mb, A, B, hI, H0⟩ := Side.unpack (rest_side (t := LiftT P S row F) h)
  obtain ⟨i0, hi, hz0, hz1, hz2⟩ := info_parts info_sector
  replace hi := Lib.hid hi
  replace hz0 := Lib.hid hz0
  have O1 := Lib.hid (fun w' => outside_any w' (d.m : Int) 16 false (by have := hd.m; simp; omega))
  have O2 := Lib.hid (fun w' => outside_any w' (d.r : Int) 4096 false (by have := hd.r; simp; omega))
  obtain ⟨dof, dc, rfl⟩ : ∃ ao c, dv = .slice ao 128 c := by
    rcases hsl with ⟨h0, _⟩ | ⟨b, o, c', hv, _⟩
    · have := congrArg List.length h0
      rw [ints_length, hd.len] at this
      cases this
    · exact ⟨_, _, by rw [hv, ints_length, hd.len]⟩
  obtain ⟨X, hX⟩ : ∃ X, X = w.heap.size := ⟨_, rfl⟩
  have H1 := H0.add (b := blkT w.heap.size 49 [.int .i64 (d.m : Int), .int .i64 (d.r : Int), .slice dof 128 dc]) ((Chg.refl _ _).alloc _) (Blk.made w _ _) (fun k hk => by rw [List.mem_singleton.1 hk]; exact Nat.le_refl _)
  have C1 : Hid (Chg [] w (w.alloc (.cells #[.int .i64 (d.m : Int), .int .i64 (d.r : Int), .slice dof 128 dc] 49))) := (Chg.refl _ _).alloc _
  rw [← hX] at H1
  replace hX := Lib.hid hX
  replace hI := Lib.hid hI
  replace H1 := Lib.hid H1
  have HD := Lib.hid hd
  have SL := Lib.hid hsl
  replace hoff := Lib.hid hoff
  replace hfew := Lib.hid hfew
  have bm : (d.m : Int) < 16 := by have := hd.m; omega
  have x0 := (H1.out.get 0 rfl : Blk _ _ _ _).cell (j := 0) rfl
  have x1 := (H1.out.get 0 rfl : Blk _ _ _ _).cell (j := 1) rfl
  have x2 := (H1.out.get 0 rfl : Blk _ _ _ _).cell (j := 2) rfl
  clear H0 h hd hsl hz1 hz2
  go_enter Try.func18, Try.ntmps18
  go_upto_region 1 with fail
  rw [← hX.out]
  generalize hW1 : w.alloc (.cells #[.int .i64 (d.m : Int), .int .i64 (d.r : Int), .slice dof 128 dc] 49) = W1 at *
  go_wp2_with fail
  refine (O1.out _).mono ?_
  rintro e w2 ⟨rfl, rfl⟩
  go_wp2_with fail
  refine (O2.out _).mono ?_
  rintro e w3 ⟨rfl, rfl⟩
  go_upto_region 6 with fail
  obtain ⟨Y, hY⟩ : ∃ Y, Y = w3.heap.size := ⟨_, rfl⟩
  rw [← hY]
  have H2 := H1.out.add (b := blkT w3.heap.size 78 [.int .i64 (d.r : Int), .int .i64 (d.m : Int)]) ((Chg.refl _ _).alloc _) (Blk.made w3 _ _) (fun k hk => by rw [List.mem_singleton.1 hk]; exact Nat.le_refl _)
  rw [← hY] at H2
  have C2 : Hid (Chg [] w (w3.alloc (.cells #[.int .i64 (d.r : Int), .int .i64 (d.m : Int)] 78))) := C1.out.alloc _
  replace H2 := Lib.hid H2
  replace hY := Lib.hid hY
  replace hW1 := Lib.hid hW1
  clear x0 x1 x2 H1 C1
  generalize hW3 : w3.alloc (.cells #[.int .i64 (d.r : Int), .int .i64 (d.m : Int)] 78) = W3 at *
  replace hW3 := Lib.hid hW3
  obtain ⟨cs, b, hcl, hc1, hb, LK⟩ := look_ok (H2.out.get 5 rfl : MapIn _ _ _) hI.out.ok HD.out.pl
  replace hb := Lib.hid hb
  have hpw : plVal (pl d) = .agg #[.int .i64 (d.r : Int), .int .i64 (d.m : Int)] := rfl
  rw [hpw] at LK
  have K0 : Hid (∀ w', Chg [] W3 w' → (w'.cell? ⟨Y, 0, none⟩ = some (.int .i64 (d.r : Int)) ∧ w'.cell? ⟨Y, 1, none⟩ = some (.int .i64 (d.m : Int))) ∧ w'.cell? ⟨P, 3, none⟩ = some (.map (some mb)) ∧ (Instr.lookup 72 (.map (some mb)) (.agg #[.int .i64 (d.r : Int), .int .i64 (d.m : Int)]) true).run Try.prog w' = .ok (.tuple #[.agg cs.toArray, .bool b]) w') := fun w' c =>
    ⟨⟨((H2.out.get 0 rfl : Blk _ _ _ _).chg c (by simp)).cell (j := 0) rfl, ((H2.out.get 0 rfl : Blk _ _ _ _).chg c (by simp)).cell (j := 1) rfl⟩, ((H2.out.get 2 rfl : Blk _ _ _ _).chg c (by simp)).cell (j := 3) rfl, LK w' c⟩
  have k0 := K0.out W3 (Chg.refl _ _)
  have k1 := K0.out W3.drew ((Chg.refl _ _).drewN 1)
  have k2 := K0.out (W3.drew.alloc (.cells (List.replicate 128 (Value.int .u8 0)).toArray 85)) (((Chg.refl _ _).drewN 1).alloc _)
  have hzc : Try.zeroCells85.size = 128 := by kernel_rfl
  have T1 : (W3.alloc (.cells Try.zeroCells85 85)).drew.there W3.heap.size 0 128 := (Blk.made W3 Try.zeroCells85.toList 85).there 0 128 (by simp [hzc])
  have CS : Hid (Chg [] W3 ((W3.alloc (.cells Try.zeroCells85 85)).drew.setCells W3.heap.size 0 cs)) := Chg.setCells cs 0 _ (((Chg.refl [] W3).alloc _).drewN 1) (.inr (Nat.le_refl _))
  have SZ := size_sector
  have H4 := Lib.hid (H2.out.quiet CS.out)
  clear hpw
  go_region_held3 (fun w' : World => (w'.cell? ⟨Y, 0, none⟩ = some (.int .i64 (d.r : Int)) ∧ w'.cell? ⟨Y, 1, none⟩ = some (.int .i64 (d.m : Int))) ∧ w'.cell? ⟨P, 3, none⟩ = some (.map (some mb)) ∧ (Instr.lookup 72 (.map (some mb)) (.agg #[.int .i64 (d.r : Int), .int .i64 (d.m : Int)]) true).run Try.prog w' = .ok (.tuple #[.agg cs.toArray, .bool b]) w') (first | exact k0 | exact k1 | exact k2 | exact K0.out _ CS.out) (fail)
  all_goals
    clear k0 k1 k2 K0 T1 CS hzc LK H2 C2 hW3
    generalize (W3.alloc (.cells Try.zeroCells85 85)).drew.setCells W3.heap.size 0 cs = W8 at *
    cases b with
    | true =>
      have hI2 := Lib.hid (hI.out.old HD.out (hb.out.1 rfl))
      have y0 := (H4.out.get 0 rfl : Blk _ _ _ _).cell (j := 0) rfl
      have y1 := (H4.out.get 0 rfl : Blk _ _ _ _).cell (j := 1) rfl
      have x2 := (H4.out.get 1 rfl : Blk _ _ _ _).cell (j := 2) rfl
      have p3 := (H4.out.get 2 rfl : Blk _ _ _ _).cell (j := 3) rfl
      have RF : Hid (Chg F w W8) := H4.out.get 6 rfl
      obtain ⟨D, hD, FIN⟩ := put_fin H4.out hI2.out hI.out.srt HD.out
      replace hD := Lib.hid hD
      replace FIN := Lib.hid FIN
      obtain ⟨dg, dg0, rfl, RG⟩ := sector_range (SL.out.chg RF.out hoff.out) HD.out.len
      have KEY : Hid (keyOf Try.prog 78 (.agg #[.int .i64 (d.r : Int), .int .i64 (d.m : Int)]) = some (plKey (pl d))) := key_of HD.out.pl
      have KK : Hid (∀ w', Chg [mb] W8 w' → (w'.cell? ⟨Y, 0, none⟩ = some (.int .i64 (d.r : Int)) ∧ w'.cell? ⟨Y, 1, none⟩ = some (.int .i64 (d.m : Int))) ∧ (w'.cell? ⟨X, 2, none⟩ = some (.slice (some ⟨dg, dg0, none⟩) 128 dc) ∧ w'.cell? ⟨P, 3, none⟩ = some (.map (some mb))) ∧ w'.rangeAt dg dg0 (ub d.bs)) := fun w' c =>
        ⟨⟨((H4.out.get 0 rfl : Blk _ _ _ _).chg c (by simpa using map_block hD.out y0)).cell (j := 0) rfl, ((H4.out.get 0 rfl : Blk _ _ _ _).chg c (by simpa using map_block hD.out y0)).cell (j := 1) rfl⟩, ⟨((H4.out.get 1 rfl : Blk _ _ _ _).chg c (by simpa using map_block hD.out x2)).cell (j := 2) rfl, ((H4.out.get 2 rfl : Blk _ _ _ _).chg c (by simpa using map_block hD.out p3)).cell (j := 3) rfl⟩, fun j v hj => (c.cell (p := ⟨dg, dg0 + j, none⟩) (World.block_lt_of_cell? _ _ (RG j v hj)) (by simpa using map_block hD.out (RG j v hj))).trans (RG j v hj)⟩
      have AT := fun w' : World => run_sector_at w' (some ⟨dg, dg0, none⟩) dc
      have hu := Try.underlying85
      have SZ2 : (Try.prog.info? 85).map (·.size) = some (ub d.bs).length := by rw [ub_len, HD.out.len]; exact size_sector
      have kk := KK.out W8 (Chg.refl _ _)
      have kd := KK.out W8.drew ((Chg.refl _ _).drewN 1)
      obtain ⟨wm, mrun, ow, gr⟩ := (hD.out.drew).update place_law Try.underlying72 (by have := hfew.out; unfold maxLen; omega) KEY.out (val := .agg (ub d.bs).toArray) rfl
      have CM : Hid (Chg [mb] W8 wm) := ((Chg.refl [mb] W8).drewN 1).grown gr (fun k hk => .inl (by cases hk; simp))
      have TU := Lib.hid (FIN.out wm ow CM.out)
      clear H4 hI2 RF y0 y1 x2 p3 RG ow gr
      go_upto_region 9 with fail
      go_region_held3 (fun w' : World => (w'.cell? ⟨Y, 0, none⟩ = some (.int .i64 (d.r : Int)) ∧ w'.cell? ⟨Y, 1, none⟩ = some (.int .i64 (d.m : Int))) ∧ (w'.cell? ⟨X, 2, none⟩ = some (.slice (some ⟨dg, dg0, none⟩) 128 dc) ∧ w'.cell? ⟨P, 3, none⟩ = some (.map (some mb))) ∧ w'.rangeAt dg dg0 (ub d.bs)) (first | exact kk | exact kd | exact KK.out _ CM.out) (fail)
      all_goals go_wp2_with fail
      all_goals go_ret
      all_goals exact ⟨rfl, TU⟩
    | false =>
      by_cases hr : row ≤ d.r
      · have HQ := Lib.hid ((H4.out.front 3).front 3)
        have OF : Hid (∀ w', Chg [] W8 w' → Calls Try.prog 34 #[.pointer (some ⟨P, 0, none⟩), .agg #[.int .i64 (d.r : Int), .int .i64 (d.m : Int)]] w' (Says w' (.pointer (some ⟨P, 1, none⟩)))) := fun w' c => of_any w' P row (pl d) (Nat.lt_of_lt_of_le (HQ.out.get 0 rfl : Blk _ _ _ _).lt c.size) (((HQ.out.get 0 rfl : Blk _ _ _ _).chg c (by simp)).cell (j := 0) rfl) 1 (by rw [if_pos (show row ≤ (pl d).1 from hr)])
        have AD : Hid (∀ w', Chg [] W8 w' → Calls Try.prog 35 #[.pointer (some ⟨P, 1, none⟩), .agg #[.int .i64 (d.r : Int), .int .i64 (d.m : Int)]] w' _) := fun w' c => add_any (noHeap w) w' _ P 1 va (lcells row va vb mb) A (pl d) (HQ.out.quiet c) rfl (Nat.le_trans hI.out.lenA hfew.out) hI.out.ha
        have KY : Hid (∀ w', Chg [] W8 w' → w'.cell? ⟨Y, 0, none⟩ = some (.int .i64 (d.r : Int)) ∧ w'.cell? ⟨Y, 1, none⟩ = some (.int .i64 (d.m : Int))) := fun w' c => ⟨((H4.out.get 0 rfl : Blk _ _ _ _).chg c (by simp)).cell (j := 0) rfl, ((H4.out.get 0 rfl : Blk _ _ _ _).chg c (by simp)).cell (j := 1) rfl⟩
        have ky := KY.out W8 (Chg.refl _ _)
        have CQ : Hid (Chg [] W8 W8.drew) := (Chg.refl _ _).drewN 1
        clear H4 HQ
        go_upto_region 8 with fail
        go_region_held3 (fun w' : World => w'.cell? ⟨Y, 0, none⟩ = some (.int .i64 (d.r : Int)) ∧ w'.cell? ⟨Y, 1, none⟩ = some (.int .i64 (d.m : Int))) (first | exact ky | exact ⟨(H6.out.get 2 rfl : Blk _ _ _ _).cell (j := 0) rfl, (H6.out.get 2 rfl : Blk _ _ _ _).cell (j := 1) rfl⟩ | exact KY.out _ CQ.out) (first
          | (go_at_call 34; refine (OF.out _ CQ.out).mono ?_; rintro e5 w5 ⟨rfl, C5⟩; replace CQ := Lib.hid (CQ.out.trans C5.out); clear C5)
          | (go_at_call 35; refine (AD.out _ CQ.out).mono ?_; rintro e6 w6 ⟨rfl, v6, B6, HP6, HH6, H6⟩))
        all_goals
          have hI6 := Lib.hid (hI.out.up HD.out (fun e he hp => by have := hb.out.2 ⟨e, he, hp⟩; cases this) hr HP6.out HH6.out)
          have H8 := Lib.hid (((H6.out.front 2).front 3).front 1)
          clear H6 OF AD KY CQ ky
          have y0 := (H8.out.get 0 rfl : Blk _ _ _ _).cell (j := 0) rfl
          have y1 := (H8.out.get 0 rfl : Blk _ _ _ _).cell (j := 1) rfl
          have x2 := (H8.out.get 1 rfl : Blk _ _ _ _).cell (j := 2) rfl
          have p3 := (H8.out.get 2 rfl : Blk _ _ _ _).cell (j := 3) rfl
          have RF : Hid (Chg F w w6) := H8.out.get 6 rfl
          obtain ⟨D, hD, FIN⟩ := put_fin H8.out hI6.out hI.out.srt HD.out
          replace hD := Lib.hid hD
          replace FIN := Lib.hid FIN
          obtain ⟨dg, dg0, rfl, RG⟩ := sector_range (SL.out.chg RF.out hoff.out) HD.out.len
          have KEY : Hid (keyOf Try.prog 78 (.agg #[.int .i64 (d.r : Int), .int .i64 (d.m : Int)]) = some (plKey (pl d))) := key_of HD.out.pl
          have KK : Hid (∀ w', Chg [mb] w6 w' → (w'.cell? ⟨Y, 0, none⟩ = some (.int .i64 (d.r : Int)) ∧ w'.cell? ⟨Y, 1, none⟩ = some (.int .i64 (d.m : Int))) ∧ (w'.cell? ⟨X, 2, none⟩ = some (.slice (some ⟨dg, dg0, none⟩) 128 dc) ∧ w'.cell? ⟨P, 3, none⟩ = some (.map (some mb))) ∧ w'.rangeAt dg dg0 (ub d.bs)) := fun w' c =>
            ⟨⟨((H8.out.get 0 rfl : Blk _ _ _ _).chg c (by simpa using map_block hD.out y0)).cell (j := 0) rfl, ((H8.out.get 0 rfl : Blk _ _ _ _).chg c (by simpa using map_block hD.out y0)).cell (j := 1) rfl⟩, ⟨((H8.out.get 1 rfl : Blk _ _ _ _).chg c (by simpa using map_block hD.out x2)).cell (j := 2) rfl, ((H8.out.get 2 rfl : Blk _ _ _ _).chg c (by simpa using map_block hD.out p3)).cell (j := 3) rfl⟩, fun j v hj => (c.cell (p := ⟨dg, dg0 + j, none⟩) (World.block_lt_of_cell? _ _ (RG j v hj)) (by simpa using map_block hD.out (RG j v hj))).trans (RG j v hj)⟩
          have AT := fun w' : World => run_sector_at w' (some ⟨dg, dg0, none⟩) dc
          have hu := Try.underlying85
          have SZ2 : (Try.prog.info? 85).map (·.size) = some (ub d.bs).length := by rw [ub_len, HD.out.len]; exact size_sector
          have kk := KK.out w6 (Chg.refl _ _)
          have kd := KK.out w6.drew ((Chg.refl _ _).drewN 1)
          obtain ⟨wm, mrun, ow, gr⟩ := (hD.out.drew).update place_law Try.underlying72 (by have := hfew.out; unfold maxLen; omega) KEY.out (val := .agg (ub d.bs).toArray) rfl
          have CM : Hid (Chg [mb] w6 wm) := ((Chg.refl [mb] w6).drewN 1).grown gr (fun k hk => .inl (by cases hk; simp))
          have TU := Lib.hid (FIN.out wm ow CM.out)
          clear H8 hI6 RF y0 y1 x2 p3 RG ow gr
          go_upto_region 9 with fail
          go_region_held3 (fun w' : World => (w'.cell? ⟨Y, 0, none⟩ = some (.int .i64 (d.r : Int)) ∧ w'.cell? ⟨Y, 1, none⟩ = some (.int .i64 (d.m : Int))) ∧ (w'.cell? ⟨X, 2, none⟩ = some (.slice (some ⟨dg, dg0, none⟩) 128 dc) ∧ w'.cell? ⟨P, 3, none⟩ = some (.map (some mb))) ∧ w'.rangeAt dg dg0 (ub d.bs)) (first | exact kk | exact kd | exact KK.out _ CM.out) (fail)
          all_goals go_wp2_with fail
          all_goals go_ret
          all_goals exact ⟨rfl, TU⟩
      · have HQ := Lib.hid ((H4.out.front 4).front 3)
        have OF : Hid (∀ w', Chg [] W8 w' → Calls Try.prog 34 #[.pointer (some ⟨P, 0, none⟩), .agg #[.int .i64 (d.r : Int), .int .i64 (d.m : Int)]] w' (Says w' (.pointer (some ⟨P, 2, none⟩)))) := fun w' c => of_any w' P row (pl d) (Nat.lt_of_lt_of_le (HQ.out.get 0 rfl : Blk _ _ _ _).lt c.size) (((HQ.out.get 0 rfl : Blk _ _ _ _).chg c (by simp)).cell (j := 0) rfl) 2 (by rw [if_neg (show ¬ row ≤ (pl d).1 from hr)])
        have AD : Hid (∀ w', Chg [] W8 w' → Calls Try.prog 35 #[.pointer (some ⟨P, 2, none⟩), .agg #[.int .i64 (d.r : Int), .int .i64 (d.m : Int)]] w' _) := fun w' c => add_any (noHeap w) w' _ P 2 vb (lcells row va vb mb) B (pl d) (HQ.out.quiet c) rfl (Nat.le_trans hI.out.lenB hfew.out) hI.out.hb
        have KY : Hid (∀ w', Chg [] W8 w' → w'.cell? ⟨Y, 0, none⟩ = some (.int .i64 (d.r : Int)) ∧ w'.cell? ⟨Y, 1, none⟩ = some (.int .i64 (d.m : Int))) := fun w' c => ⟨((H4.out.get 0 rfl : Blk _ _ _ _).chg c (by simp)).cell (j := 0) rfl, ((H4.out.get 0 rfl : Blk _ _ _ _).chg c (by simp)).cell (j := 1) rfl⟩
        have ky := KY.out W8 (Chg.refl _ _)
        have CQ : Hid (Chg [] W8 W8.drew) := (Chg.refl _ _).drewN 1
        clear H4 HQ
        go_upto_region 8 with fail
        go_region_held3 (fun w' : World => w'.cell? ⟨Y, 0, none⟩ = some (.int .i64 (d.r : Int)) ∧ w'.cell? ⟨Y, 1, none⟩ = some (.int .i64 (d.m : Int))) (first | exact ky | exact ⟨(H6.out.get 2 rfl : Blk _ _ _ _).cell (j := 0) rfl, (H6.out.get 2 rfl : Blk _ _ _ _).cell (j := 1) rfl⟩ | exact KY.out _ CQ.out) (first
          | (go_at_call 34; refine (OF.out _ CQ.out).mono ?_; rintro e5 w5 ⟨rfl, C5⟩; replace CQ := Lib.hid (CQ.out.trans C5.out); clear C5)
          | (go_at_call 35; refine (AD.out _ CQ.out).mono ?_; rintro e6 w6 ⟨rfl, v6, B6, HP6, HH6, H6⟩))
        all_goals
          have hI6 := Lib.hid (hI.out.low HD.out (fun e he hp => by have := hb.out.2 ⟨e, he, hp⟩; cases this) (by omega) HP6.out HH6.out)
          have H8 := Lib.hid (((((H6.out.front 1).front 4).front 2).front 4).front 4)
          clear H6 OF AD KY CQ ky
          have y0 := (H8.out.get 0 rfl : Blk _ _ _ _).cell (j := 0) rfl
          have y1 := (H8.out.get 0 rfl : Blk _ _ _ _).cell (j := 1) rfl
          have x2 := (H8.out.get 1 rfl : Blk _ _ _ _).cell (j := 2) rfl
          have p3 := (H8.out.get 2 rfl : Blk _ _ _ _).cell (j := 3) rfl
          have RF : Hid (Chg F w w6) := H8.out.get 6 rfl
          obtain ⟨D, hD, FIN⟩ := put_fin H8.out hI6.out hI.out.srt HD.out
          replace hD := Lib.hid hD
          replace FIN := Lib.hid FIN
          obtain ⟨dg, dg0, rfl, RG⟩ := sector_range (SL.out.chg RF.out hoff.out) HD.out.len
          have KEY : Hid (keyOf Try.prog 78 (.agg #[.int .i64 (d.r : Int), .int .i64 (d.m : Int)]) = some (plKey (pl d))) := key_of HD.out.pl
          have KK : Hid (∀ w', Chg [mb] w6 w' → (w'.cell? ⟨Y, 0, none⟩ = some (.int .i64 (d.r : Int)) ∧ w'.cell? ⟨Y, 1, none⟩ = some (.int .i64 (d.m : Int))) ∧ (w'.cell? ⟨X, 2, none⟩ = some (.slice (some ⟨dg, dg0, none⟩) 128 dc) ∧ w'.cell? ⟨P, 3, none⟩ = some (.map (some mb))) ∧ w'.rangeAt dg dg0 (ub d.bs)) := fun w' c =>
            ⟨⟨((H8.out.get 0 rfl : Blk _ _ _ _).chg c (by simpa using map_block hD.out y0)).cell (j := 0) rfl, ((H8.out.get 0 rfl : Blk _ _ _ _).chg c (by simpa using map_block hD.out y0)).cell (j := 1) rfl⟩, ⟨((H8.out.get 1 rfl : Blk _ _ _ _).chg c (by simpa using map_block hD.out x2)).cell (j := 2) rfl, ((H8.out.get 2 rfl : Blk _ _ _ _).chg c (by simpa using map_block hD.out p3)).cell (j := 3) rfl⟩, fun j v hj => (c.cell (p := ⟨dg, dg0 + j, none⟩) (World.block_lt_of_cell? _ _ (RG j v hj)) (by simpa using map_block hD.out (RG j v hj))).trans (RG j v hj)⟩
          have AT := fun w' : World => run_sector_at w' (some ⟨dg, dg0, none⟩) dc
          have hu := Try.underlying85
          have SZ2 : (Try.prog.info? 85).map (·.size) = some (ub d.bs).length := by rw [ub_len, HD.out.len]; exact size_sector
          have kk := KK.out w6 (Chg.refl _ _)
          have kd := KK.out w6.drew ((Chg.refl _ _).drewN 1)
          obtain ⟨wm, mrun, ow, gr⟩ := (hD.out.drew).update place_law Try.underlying72 (by have := hfew.out; unfold maxLen; omega) KEY.out (val := .agg (ub d.bs).toArray) rfl
          have CM : Hid (Chg [mb] w6 wm) := ((Chg.refl [mb] w6).drewN 1).grown gr (fun k hk => .inl (by cases hk; simp))
          have TU := Lib.hid (FIN.out wm ow CM.out)
          clear H8 hI6 RF y0 y1 x2 p3 RG ow gr
          go_upto_region 9 with fail
          go_region_held3 (fun w' : World => (w'.cell? ⟨Y, 0, none⟩ = some (.int .i64 (d.r : Int)) ∧ w'.cell? ⟨Y, 1, none⟩ = some (.int .i64 (d.m : Int))) ∧ (w'.cell? ⟨X, 2, none⟩ = some (.slice (some ⟨dg, dg0, none⟩) 128 dc) ∧ w'.cell? ⟨P, 3, none⟩ = some (.map (some mb))) ∧ w'.rangeAt dg dg0 (ub d.bs)) (first | exact kk | exact kd | exact KK.out _ CM.out) (fail)
          all_goals go_wp2_with fail
          all_goals go_ret
          all_goals exact ⟨rfl, TU⟩


theorem blk_own {w : World} {g : Nat} {e : TypeId} {vs : List Value} (h : Blk w g e vs) (hm : vs.length ≤ maxLen) : w.ownsRow 0 e 1 (.slice (some ⟨g, 0, none⟩) vs.length vs.length) vs.length vs :=
  ⟨by simp, .inr ⟨g, vs.length, vs.toArray, rfl, Nat.zero_le _, h, Nat.le_refl _, hm, by simp, by simp⟩⟩

set_option maxHeartbeats 4000000 in
set_option maxRecDepth 100000 in
theorem lput_no (w : World) (P : Nat) (m r : Int) (ao : Option Addr) (n c : Nat) (er : Int) (h : Refuses m r n er) :
    Calls Try.prog 18 #[.pointer (some ⟨P, 0, none⟩), .agg #[.int .i64 m, .int .i64 r, .slice ao n c]] w (Says w (.int .u16 er)) := by
  have C1 : Hid (Chg [] w (w.alloc (.cells #[.int .i64 m, .int .i64 r, .slice ao n c] 49))) := (Chg.refl _ _).alloc _
  rcases h with ⟨h, rfl⟩ | ⟨h1, h2, h3, h4, h5, rfl⟩
  · by_cases hm : m < 0 ∨ 15 < m
    · have O1 := Lib.hid (fun w' => outside_any w' m 16 true (by simp; omega))
      clear h hm
      go_enter Try.func18, Try.ntmps18
      go_wp2_with fail
      refine (O1.out _).mono ?_
      rintro e w2 ⟨rfl, rfl⟩
      go_wp2_with fail
      go_ret
      exact ⟨rfl, C1⟩
    · have O1 := Lib.hid (fun w' => outside_any w' m 16 false (by simp; omega))
      have O2 := Lib.hid (fun w' => outside_any w' r 4096 true (by simp; omega))
      clear h hm
      go_enter Try.func18, Try.ntmps18
      go_wp2_with fail
      refine (O1.out _).mono ?_
      rintro e w2 ⟨rfl, rfl⟩
      go_wp2_with fail
      refine (O2.out _).mono ?_
      rintro e w3 ⟨rfl, rfl⟩
      go_wp2_with fail
      go_ret
      exact ⟨rfl, C1⟩
  · have O1 := Lib.hid (fun w' => outside_any w' m 16 false (by simp; omega))
    have O2 := Lib.hid (fun w' => outside_any w' r 4096 false (by simp; omega))
    have hn : ((n : Int) != 128) = true := by simp; omega
    clear h1 h2 h3 h4 h5
    go_enter Try.func18, Try.ntmps18
    go_wp2_with fail
    refine (O1.out _).mono ?_
    rintro e w2 ⟨rfl, rfl⟩
    go_wp2_with fail
    refine (O2.out _).mono ?_
    rintro e w3 ⟨rfl, rfl⟩
    go_wp2_with fail
    go_ret
    exact ⟨rfl, C1⟩

set_option maxHeartbeats 4000000 in
set_option maxRecDepth 100000 in
theorem rem_any (w0 w : World) (ts : List Thing) (P row mb : Nat) (va vb : Value) (S : List Pd) (d : Pd) (H : Side w0 w (lbT P (lcells row va vb mb) :: mapT mb S :: ts)) (hS : Lf.Srt S) (ok : ∀ e ∈ S, PdOk e) (hd : d ∈ S) :
    Calls Try.prog 30 #[.pointer (some ⟨P, 0, none⟩), .agg #[.int .i64 (d.r : Int), .int .i64 (d.m : Int)]] w fun e w' => ∃ g, e = .returned (.agg #[.int .i64 (d.m : Int), .int .i64 (d.r : Int), .slice (some ⟨g, 0, none⟩) 128 128]) ∧ Hid (Side w0 w' (ownT 85 (.slice (some ⟨g, 0, none⟩) 128 128) (ub d.bs) :: lbT P (lcells row va vb mb) :: mapT mb (Lf.out d S) :: ts)) := by
  obtain ⟨X, hX⟩ : ∃ X, X = w.heap.size := ⟨_, rfl⟩
  have hd' := Lib.hid (ok d hd)
  have B1 := H.add (b := blkT w.heap.size 78 [.int .i64 (d.r : Int), .int .i64 (d.m : Int)]) ((Chg.refl _ _).alloc _) (Blk.made w _ _) (fun k hk => by rw [List.mem_singleton.1 hk]; exact Nat.le_refl _)
  have B2 := B1.add (b := blkT (w.alloc (.cells #[.int .i64 (d.r : Int), .int .i64 (d.m : Int)] 78)).heap.size 49 [.int .i64 0, .int .i64 0, .slice none 0 0]) ((Chg.refl _ _).alloc _) (Blk.made _ _ _) (fun k hk => by rw [List.mem_singleton.1 hk]; exact Nat.le_refl _)
  rw [show (w.alloc (.cells #[.int .i64 (d.r : Int), .int .i64 (d.m : Int)] 78)).heap.size = X + 1 by simp [hX]] at B2
  rw [← hX] at B2
  replace B2 := Lib.hid B2
  replace hX := Lib.hid hX
  have hs := Lib.hid hS
  have hok := Lib.hid ok
  have hdS := Lib.hid hd
  clear B1 H hS ok hd
  go_enter Try.func30, Try.ntmps30
  go_upto_region 1 with fail
  rw [← hX.out]
  generalize (w.alloc (.cells #[.int .i64 (d.r : Int), .int .i64 (d.m : Int)] 78)).alloc (.cells #[.int .i64 0, .int .i64 0, .slice none 0 0] 49) = W1 at *
  have LK := look_at (B2.out.get 3 rfl : MapIn _ _ _) hok.out hs.out hdS.out
  rw [show plVal (pl d) = .agg #[.int .i64 (d.r : Int), .int .i64 (d.m : Int)] from rfl] at LK
  have K0 : Hid (∀ w', Chg [] W1 w' → ((w'.cell? ⟨X, 0, none⟩ = some (.int .i64 (d.r : Int)) ∧ w'.cell? ⟨X, 1, none⟩ = some (.int .i64 (d.m : Int))) ∧ w'.cell? ⟨P, 3, none⟩ = some (.map (some mb))) ∧ (Instr.lookup 72 (.map (some mb)) (.agg #[.int .i64 (d.r : Int), .int .i64 (d.m : Int)]) false).run Try.prog w' = .ok (.agg (ub d.bs).toArray) w') := fun w' c =>
    ⟨⟨⟨((B2.out.get 1 rfl : Blk _ _ _ _).chg c (by simp)).cell (j := 0) rfl, ((B2.out.get 1 rfl : Blk _ _ _ _).chg c (by simp)).cell (j := 1) rfl⟩, ((B2.out.get 2 rfl : Blk _ _ _ _).chg c (by simp)).cell (j := 3) rfl⟩, LK w' c⟩
  have k0 := K0.out W1 (Chg.refl _ _)
  have k1 := K0.out W1.drew ((Chg.refl _ _).drewN 1)
  have k2 := K0.out (W1.drew.alloc (.cells (List.replicate 128 (Value.int .u8 0)).toArray 85)) (((Chg.refl _ _).drewN 1).alloc _)
  have hzc : Try.zeroCells85.size = 128 := by kernel_rfl
  have B0 := Blk.made W1 Try.zeroCells85.toList 85
  have CS : Hid (Chg [] W1 ((W1.alloc (.cells Try.zeroCells85 85)).drew.setCells W1.heap.size 0 (ub d.bs))) := Chg.setCells (ub d.bs) 0 _ (((Chg.refl [] W1).alloc _).drewN 1) (.inr (Nat.le_refl _))
  have hl : (ub d.bs).length = 128 := by rw [ub_len]; exact hd'.out.len
  have T1 : (W1.alloc (.cells Try.zeroCells85 85)).drew.there W1.heap.size 0 (ub d.bs).length := B0.there 0 _ (by rw [hl]; simp [hzc])
  have BG : Blk ((W1.alloc (.cells Try.zeroCells85 85)).drew.setCells W1.heap.size 0 (ub d.bs)) W1.heap.size 85 (ub d.bs) := by
    have := Blk.setCells (ub d.bs) _ 0 _ (Blk.drew B0) (by rw [hl]; simp [hzc])
    rw [lay_all _ _ (by rw [hl]; simp [hzc])] at this
    exact this
  have SZ : (Try.prog.info? 85).map (·.size) = some (ub d.bs).length := by rw [hl]; exact size_sector
  have hc1 := ub_one d.bs
  have hu := Try.underlying85
  obtain ⟨G, hG⟩ : ∃ G, G = W1.heap.size := ⟨_, rfl⟩
  have B3 := Lib.hid (B2.out.add (w' := (W1.alloc (.cells Try.zeroCells85 85)).drew.setCells W1.heap.size 0 (ub d.bs)) (b := blkT W1.heap.size 85 (ub d.bs)) CS.out BG (fun k hk => by rw [List.mem_singleton.1 hk]; exact Nat.le_refl _))
  clear BG B0 hl
  go_region_held3 (fun w' : World => ((w'.cell? ⟨X, 0, none⟩ = some (.int .i64 (d.r : Int)) ∧ w'.cell? ⟨X, 1, none⟩ = some (.int .i64 (d.m : Int))) ∧ w'.cell? ⟨P, 3, none⟩ = some (.map (some mb))) ∧ (Instr.lookup 72 (.map (some mb)) (.agg #[.int .i64 (d.r : Int), .int .i64 (d.m : Int)]) false).run Try.prog w' = .ok (.agg (ub d.bs).toArray) w') (first | exact k0 | exact k1 | exact k2 | exact K0.out _ CS.out) (fail)
  all_goals
    rw [← hG] at B3 ⊢
    clear k0 k1 k2 K0 T1 CS hzc LK B2 hG
    generalize (W1.alloc (.cells Try.zeroCells85 85)).drew.setCells G 0 (ub d.bs) = W2 at *
    obtain ⟨D, hD, hM⟩ := (B3.out.get 4 rfl : MapIn _ _ _)
    have KEY : keyOf Try.prog 78 (.agg #[.int .i64 (d.r : Int), .int .i64 (d.m : Int)]) = some (plKey (pl d)) := key_of hd'.out.pl
    obtain ⟨wm, mrun, ow, mt⟩ := (show W2.drew.ownsMap _ _ _ _ _ _ from hD.drew).drop place_law Try.underlying72 KEY 0
    have CM : Hid (Chg [mb] W2 wm) := ((Chg.refl [mb] W2).drewN 1).grown mt.grown (fun k hk => .inl (by cases hk; simp))
    have MW : MapIn wm mb (Lf.out d S) := MapIn.of ow (hM.del (hD.tidy place_law) hs.out hok.out hdS.out)
    have H5 := Lib.hid (B3.out.turnAt 4 rfl (b := mapT mb (Lf.out d S)) CM.out (fun k hk => .inl hk) MW (fun k hk => .inl hk))
    have y0 := (B3.out.get 2 rfl : Blk _ _ _ _).cell (j := 0) rfl
    have p3 := (B3.out.get 3 rfl : Blk _ _ _ _).cell (j := 3) rfl
    have KK : Hid (∀ w', Chg [mb] W2 w' → (w'.cell? ⟨X, 0, none⟩ = some (.int .i64 (d.r : Int)) ∧ w'.cell? ⟨X, 1, none⟩ = some (.int .i64 (d.m : Int))) ∧ w'.cell? ⟨P, 3, none⟩ = some (.map (some mb))) := fun w' c =>
      ⟨⟨((B3.out.get 2 rfl : Blk _ _ _ _).chg c (by simpa using map_block hD y0)).cell (j := 0) rfl, ((B3.out.get 2 rfl : Blk _ _ _ _).chg c (by simpa using map_block hD y0)).cell (j := 1) rfl⟩, ((B3.out.get 3 rfl : Blk _ _ _ _).chg c (by simpa using map_block hD p3)).cell (j := 3) rfl⟩
    have kk := KK.out W2 (Chg.refl _ _)
    have kd := KK.out W2.drew ((Chg.refl _ _).drewN 1)
    clear hD hM ow mt MW y0 p3 B3
    go_upto_region 2 with fail
    go_region_held3 (fun w' : World => (w'.cell? ⟨X, 0, none⟩ = some (.int .i64 (d.r : Int)) ∧ w'.cell? ⟨X, 1, none⟩ = some (.int .i64 (d.m : Int))) ∧ w'.cell? ⟨P, 3, none⟩ = some (.map (some mb))) (first | exact kk | exact kd | exact KK.out _ CM.out) (fail)
    all_goals
      clear kk kd KK
      have x0 := (H5.out.get 2 rfl : Blk _ _ _ _).cell (j := 0) rfl
      have x1 := (H5.out.get 2 rfl : Blk _ _ _ _).cell (j := 1) rfl
      have R0 : Blk wm (X + 1) 49 [.int .i64 0, .int .i64 0, .slice none 0 0] := H5.out.get 1 rfl
      have r0 := R0.cell (j := 0) rfl
      have r1 := R0.cell (j := 1) rfl
      have r2 := R0.cell (j := 2) rfl
      have f0 := R0.free 0
      have f1 := R0.free 1
      have f2 := R0.free 2
      clear R0
      go_upto_region 3 with fail
      go_region
      all_goals go_wp2_with fail
      all_goals
        have BR : Hid (Blk (((wm.setCell ⟨X + 1, 0, none⟩ (.int .i64 (d.m : Int))).setCell ⟨X + 1, 1, none⟩ (.int .i64 (d.r : Int))).setCell ⟨X + 1, 2, none⟩ (.slice (some ⟨G, 0, none⟩) 128 128)).drew (X + 1) 49 [.int .i64 (d.m : Int), .int .i64 (d.r : Int), .slice (some ⟨G, 0, none⟩) 128 128]) := ((((H5.out.get 1 rfl : Blk _ _ _ _).set 0 _).set 1 _).set 2 _).drew
        have CR : Chg [X + 1] wm (((wm.setCell ⟨X + 1, 0, none⟩ (.int .i64 (d.m : Int))).setCell ⟨X + 1, 1, none⟩ (.int .i64 (d.r : Int))).setCell ⟨X + 1, 2, none⟩ (.slice (some ⟨G, 0, none⟩) 128 128)).drew := ((((Chg.refl [X + 1] wm).setCell (p := ⟨X + 1, 0, none⟩) (.inl (by simp)) _).setCell (p := ⟨X + 1, 1, none⟩) (.inl (by simp)) _).setCell (p := ⟨X + 1, 2, none⟩) (.inl (by simp)) _).drewN 1
        have H6 := H5.out.turnAt 1 rfl (b := blkT (X + 1) 49 [.int .i64 (d.m : Int), .int .i64 (d.r : Int), .slice (some ⟨G, 0, none⟩) 128 128]) CR (fun k hk => .inl hk) BR.out (fun k hk => .inl hk)
        have hl : (ub d.bs).length = 128 := by rw [ub_len]; exact hd'.out.len
        have OG := blk_own (H6.get 0 rfl : Blk _ G 85 (ub d.bs)) (by rw [hl]; decide)
        have OG2 : (((wm.setCell ⟨X + 1, 0, none⟩ (.int .i64 (d.m : Int))).setCell ⟨X + 1, 1, none⟩ (.int .i64 (d.r : Int))).setCell ⟨X + 1, 2, none⟩ (.slice (some ⟨G, 0, none⟩) 128 128)).drew.ownsRow 0 85 1 (.slice (some ⟨G, 0, none⟩) 128 128) (ub d.bs).length (ub d.bs) := by
          rw [hl] at OG ⊢
          exact OG
        have H7 := H6.turnAt 0 rfl (b := ownT 85 (.slice (some ⟨G, 0, none⟩) 128 128) (ub d.bs)) (Chg.refl [] _) (fun k hk => by cases hk) OG2 (fun k hk => .inl (by simpa [ownT, blkT, Value.ownBlock] using hk))
        refine bodyPost_ret (results_cell_row rfl _ _ (X + 1) _ _ _ _ rfl BR.out Try.underlying49 rfl size_patch) rfl ?_
        exact ⟨G, rfl, H7.sub (List.Sublist.cons_cons _ ((List.sublist_cons_self _ _).trans (List.sublist_cons_self _ _)))⟩

end Go.Proofs.Ytihmegpcbpdipaa
