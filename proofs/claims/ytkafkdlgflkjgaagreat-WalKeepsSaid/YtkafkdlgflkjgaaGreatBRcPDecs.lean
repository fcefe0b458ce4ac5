/-
  The program's three Decodes. By an AI agent. Printed by gen_rcpd2.py.
-/
import Derived.Test.YtkafkdlgflkjgaaGreatBG
import Derived.Test.YtkafkdlgflkjgaaGreatBRcPDec
import Derived.Test.YtkafkdlgflkjgaaGreatBRcPk
import Derived.Laws.ResultCell
import Derived.Test.YtkafkdlgflkjgaaGreatBGOwnMem
namespace Go.Proofs.YtkafkdlgflkjgaaGreat
open Go.RowKit Crc

theorem rc_two_blocks (w : World) (xs ys : List Value) (t1 t2 : TypeId) {W : World} (h : W = (w.alloc (.cells xs.toArray t1)).alloc (.cells ys.toArray t2)) : Blk W w.heap.size t1 xs ∧ Blk W (w.heap.size + 1) t2 ys ∧ Chg [] w W := by
 subst h
 have e1 : (w.alloc (.cells xs.toArray t1)).heap.size = w.heap.size + 1 := by simp
 refine ⟨(Blk.made w xs t1).alloc _, ?_, (((Chg.refl [] w).alloc _).alloc _)⟩
 rw [← e1]
 exact Blk.made _ ys t2

/-- A result that is a struct's cell, and another one. -/
theorem rc_cell_and_tmp {fn : Func} {p u : Tmp} {ty : TypeId} {P : Program} (h : fn.results = #[.cell p ty, .tmp u]) (tmps : Array Value) (w : World) (g : Nat) (t : TypeId) (cs : Array Value) (fr : Nat × Nat) (fs)
 (hp : tmps.getD p undef = .pointer (some ⟨g, 0, none⟩)) (hg : w.heap[g]? = some (.cells cs t fr))
 (hu : P.underlying ty = some (.struct fs)) (hi : (P.info? ty).map (·.size) = some cs.size) :
 (results fn tmps).run P w = .ok (.tuple #[.agg cs, tmps.getD u undef]) w := by
 rw [results_cell_tmp h, hp]
 have e1 : (asAddr (.pointer (some ⟨g, 0, none⟩))).run P w = .ok ⟨g, 0, none⟩ w := rfl
 rw [e1]
 have e2 := run_loadVar_row w g t ty cs fr _ hg hu rfl hi
 simp only [Result.andThen]
 rw [e2]

theorem size_Hd : (Tryz.prog.info? 256).map (·.size) = some 8 := by kernel_rfl

set_option maxHeartbeats 8000000 in
set_option maxRecDepth 100000 in
theorem decHd_any (v : Value) (b : List Nat) (w : World) (h : Sl w v (ints b)) (hbs : Bs b) (hcap : ∀ ao n c, v = .slice ao n c → n ≤ c) : Calls Tryz.prog 259 #[v] w fun e w' => e = .returned (.tuple #[(Hd.dval b).val, .int .u16 (Hd.derr b)]) ∧ Hid (Chg [] w w') := by
 have DE := Lib.hid (fun W (C : Chg [] w W) (hlt : w.heap.size + 1 < W.heap.size) (hl : b.length = 128) (B : Blk W (w.heap.size + 1) 256 [.int .u64 0, .int .u64 0, .int .i64 0, .int .i64 0, .int .i64 0, .int .i64 0, .bool false, .int .u32 0]) => decode_any 1 v b 263 #[.pointer (some ⟨w.heap.size + 1, 0, none⟩)] (w.heap.size + 1) 48 (decide (cut (b.take 124) 41 3 = noughts 3)) (decide (Hd.of (b.take 124)).Ok && decide ((b.take 124).getD 40 0 ≤ 1)) 256 (cellsOf (Hd.of (b.take 124)).val) W (by decide) (h.chg C (by simp)) hbs hcap (by decide) hlt (reads_Hd (b.take 124) (fun x hx => hbs x (List.mem_of_mem_take hx)) (by rw [List.length_take]; omega) (w.heap.size + 1) W B))
 rw [Hd.derr_eq hbs, Hd.of_take] at DE
 have DL := Lib.hid (fun W (C : Chg [] w W) (hl : ¬ b.length = 128) => decode_short 1 v b 263 #[.pointer (some ⟨w.heap.size + 1, 0, none⟩)] W (h.chg C (by simp)) hl)
 have H2 : Hid (Hd.derr b ≠ 0 → (Hd.dval b).val = .agg #[.int .u64 0, .int .u64 0, .int .i64 0, .int .i64 0, .int .i64 0, .int .i64 0, .bool false, .int .u32 0]) := fun h0 => by unfold Hd.dval; rw [if_neg h0]; rfl
 obtain ⟨x, hx⟩ : ∃ x, x = Hd.of b := ⟨_, rfl⟩
 have H1 : Hid (Hd.derr b = 0 → (Hd.dval b).val = .agg #[.int .u64 (x.ep : Int), .int .u64 (x.sq : Int), .int .i64 x.ix, .int .i64 x.ct, .int .i64 x.mb, .int .i64 x.rw', .bool x.esc, .int .u32 (x.sm : Int)]) := fun h0 => by unfold Hd.dval; rw [if_pos h0, hx]; rfl
 have HC : Hid (cellsOf (Hd.of b).val = [.int .u64 (x.ep : Int), .int .u64 (x.sq : Int), .int .i64 x.ix, .int .i64 x.ct, .int .i64 x.mb, .int .i64 x.rw', .bool x.esc, .int .u32 (x.sm : Int)]) := by show _ = _; rw [hx]; rfl
 rw [HC.out] at DE
 clear hx HC
 have HL : Hid (¬ b.length = 128 → Hd.derr b = 4) := fun hl => by
  have d : lookOf 1 b = 4 := by unfold lookOf; rw [if_pos hl]
  unfold Hd.derr
  rw [d, if_pos (by decide)]
 have HI := Hd.derr_in b
 clear hcap hbs h
 have DD : Hid (∀ W (C : Chg [] w W) (hlt : w.heap.size + 1 < W.heap.size) (B : Blk W (w.heap.size + 1) 256 [.int .u64 0, .int .u64 0, .int .i64 0, .int .i64 0, .int .i64 0, .int .i64 0, .bool false, .int .u32 0]), Calls Tryz.prog 173 #[v, .int .u8 1, .func (.func 263) #[] #[.pointer (some ⟨w.heap.size + 1, 0, none⟩)]] W fun e w' => e = .returned (.int .u16 (Hd.derr b)) ∧ Hid (Chg [w.heap.size + 1] W w') ∧ (Hd.derr b = 0 → Hid (Blk w' (w.heap.size + 1) 256 [.int .u64 (x.ep : Int), .int .u64 (x.sq : Int), .int .i64 x.ix, .int .i64 x.ct, .int .i64 x.mb, .int .i64 x.rw', .bool x.esc, .int .u32 (x.sm : Int)]))) := fun W C hlt B => by
  by_cases hl : b.length = 128
  ·exact DE.out W C hlt hl B
  ·rw [HL.out hl]
   refine (DL.out W C hl).mono ?_
   rintro e w' ⟨rfl, c⟩
   exact ⟨rfl, c.out.mono (by simp), fun h => absurd h (by decide)⟩
 clear DE DL HL
 generalize Hd.derr b = er at *
 generalize (Hd.dval b).val = rv at *
 by_cases h0 : er = 0
 ·subst h0
  obtain rfl := H1.out rfl
  clear H1 H2 HI
  go_enter Tryz.func259, Tryz.ntmps259
  go_wp2_with fail
  obtain ⟨W, hW⟩ : ∃ W, W = (w.alloc (.cells #[.int .u64 0, .int .u64 0, .int .i64 0, .int .i64 0, .int .i64 0, .int .i64 0, .bool false, .int .u32 0] 256)).alloc (.cells #[.int .u64 0, .int .u64 0, .int .i64 0, .int .i64 0, .int .i64 0, .int .i64 0, .bool false, .int .u32 0] 256) := ⟨_, rfl⟩
  rw [← hW]
  obtain ⟨B1, B2, C⟩ := rc_two_blocks w [.int .u64 0, .int .u64 0, .int .i64 0, .int .i64 0, .int .i64 0, .int .i64 0, .bool false, .int .u32 0] [.int .u64 0, .int .u64 0, .int .i64 0, .int .i64 0, .int .i64 0, .int .i64 0, .bool false, .int .u32 0] 256 256 hW
  replace B1 := Lib.hid B1
  replace C := Lib.hid C
  clear hW
  refine (DD.out W C.out B2.lt B2).mono ?_
  rintro e w2 ⟨rfl, C2, B3⟩
  have C3 : Hid (Chg [] w w2) := C.out.fresh C2.out (fun j hj => .inr (by rw [List.mem_singleton.1 hj]; omega))
  have B4 := Lib.hid (B1.out.chg C2.out (by simp))
  clear B1 B2 C C2 DD
  have B5 := B3 (by trivial)
  clear B3
  have k0 := B5.out.cell (j := 0) rfl
  have k1 := B5.out.cell (j := 1) rfl
  have k2 := B5.out.cell (j := 2) rfl
  have k3 := B5.out.cell (j := 3) rfl
  have k4 := B5.out.cell (j := 4) rfl
  have k5 := B5.out.cell (j := 5) rfl
  have k6 := B5.out.cell (j := 6) rfl
  have k7 := B5.out.cell (j := 7) rfl
  have f0 := B4.out.free 0
  have c0 := B4.out.cell (j := 0) rfl
  have f1 := B4.out.free 1
  have c1 := B4.out.cell (j := 1) rfl
  have f2 := B4.out.free 2
  have c2 := B4.out.cell (j := 2) rfl
  have f3 := B4.out.free 3
  have c3 := B4.out.cell (j := 3) rfl
  have f4 := B4.out.free 4
  have c4 := B4.out.cell (j := 4) rfl
  have f5 := B4.out.free 5
  have c5 := B4.out.cell (j := 5) rfl
  have f6 := B4.out.free 6
  have c6 := B4.out.cell (j := 6) rfl
  have f7 := B4.out.free 7
  have c7 := B4.out.cell (j := 7) rfl
  have hne1 : ¬ w.heap.size = w.heap.size + 1 := by omega
  go_wp2_with fail
  refine bodyPost_ret (rc_cell_and_tmp rfl _ _ w.heap.size _ _ _ _ rfl (((((((((B4.out).set 0 (.int .u64 (x.ep : Int))).set 1 (.int .u64 (x.sq : Int))).set 2 (.int .i64 x.ix)).set 3 (.int .i64 x.ct)).set 4 (.int .i64 x.mb)).set 5 (.int .i64 x.rw')).set 6 (.bool x.esc)).set 7 (.int .u32 (x.sm : Int))) Tryz.underlying256 size_Hd) rfl ?_
  exact ⟨rfl, ((((((((C3.out).setCell (p := ⟨w.heap.size, 0, none⟩) (.inr (Nat.le_refl _)) (.int .u64 (x.ep : Int))).setCell (p := ⟨w.heap.size, 1, none⟩) (.inr (Nat.le_refl _)) (.int .u64 (x.sq : Int))).setCell (p := ⟨w.heap.size, 2, none⟩) (.inr (Nat.le_refl _)) (.int .i64 x.ix)).setCell (p := ⟨w.heap.size, 3, none⟩) (.inr (Nat.le_refl _)) (.int .i64 x.ct)).setCell (p := ⟨w.heap.size, 4, none⟩) (.inr (Nat.le_refl _)) (.int .i64 x.mb)).setCell (p := ⟨w.heap.size, 5, none⟩) (.inr (Nat.le_refl _)) (.int .i64 x.rw')).setCell (p := ⟨w.heap.size, 6, none⟩) (.inr (Nat.le_refl _)) (.bool x.esc)).setCell (p := ⟨w.heap.size, 7, none⟩) (.inr (Nat.le_refl _)) (.int .u32 (x.sm : Int))⟩
 ·obtain rfl := H2.out h0
  have hne : (er != 0) = true := by simpa using h0
  clear H1 H2
  go_enter Tryz.func259, Tryz.ntmps259
  go_wp2_with fail
  obtain ⟨W, hW⟩ : ∃ W, W = (w.alloc (.cells #[.int .u64 0, .int .u64 0, .int .i64 0, .int .i64 0, .int .i64 0, .int .i64 0, .bool false, .int .u32 0] 256)).alloc (.cells #[.int .u64 0, .int .u64 0, .int .i64 0, .int .i64 0, .int .i64 0, .int .i64 0, .bool false, .int .u32 0] 256) := ⟨_, rfl⟩
  rw [← hW]
  obtain ⟨B1, B2, C⟩ := rc_two_blocks w [.int .u64 0, .int .u64 0, .int .i64 0, .int .i64 0, .int .i64 0, .int .i64 0, .bool false, .int .u32 0] [.int .u64 0, .int .u64 0, .int .i64 0, .int .i64 0, .int .i64 0, .int .i64 0, .bool false, .int .u32 0] 256 256 hW
  replace B1 := Lib.hid B1
  replace C := Lib.hid C
  clear hW
  refine (DD.out W C.out B2.lt B2).mono ?_
  rintro e w2 ⟨rfl, C2, B3⟩
  have C3 : Hid (Chg [] w w2) := C.out.fresh C2.out (fun j hj => .inr (by rw [List.mem_singleton.1 hj]; omega))
  have B4 := Lib.hid (B1.out.chg C2.out (by simp))
  clear B1 B2 C C2 DD
  clear B3 h0
  have f0 := B4.out.free 0
  have c0 := B4.out.cell (j := 0) rfl
  have f1 := B4.out.free 1
  have c1 := B4.out.cell (j := 1) rfl
  have f2 := B4.out.free 2
  have c2 := B4.out.cell (j := 2) rfl
  have f3 := B4.out.free 3
  have c3 := B4.out.cell (j := 3) rfl
  have f4 := B4.out.free 4
  have c4 := B4.out.cell (j := 4) rfl
  have f5 := B4.out.free 5
  have c5 := B4.out.cell (j := 5) rfl
  have f6 := B4.out.free 6
  have c6 := B4.out.cell (j := 6) rfl
  have f7 := B4.out.free 7
  have c7 := B4.out.cell (j := 7) rfl
  have hne1 : ¬ w.heap.size = w.heap.size + 1 := by omega
  go_wp2_with fail
  refine bodyPost_ret (rc_cell_and_tmp rfl _ _ w.heap.size _ _ _ _ rfl (((((((((B4.out).set 0 (.int .u64 0)).set 1 (.int .u64 0)).set 2 (.int .i64 0)).set 3 (.int .i64 0)).set 4 (.int .i64 0)).set 5 (.int .i64 0)).set 6 (.bool false)).set 7 (.int .u32 0)) Tryz.underlying256 size_Hd) rfl ?_
  exact ⟨rfl, ((((((((C3.out).setCell (p := ⟨w.heap.size, 0, none⟩) (.inr (Nat.le_refl _)) (.int .u64 0)).setCell (p := ⟨w.heap.size, 1, none⟩) (.inr (Nat.le_refl _)) (.int .u64 0)).setCell (p := ⟨w.heap.size, 2, none⟩) (.inr (Nat.le_refl _)) (.int .i64 0)).setCell (p := ⟨w.heap.size, 3, none⟩) (.inr (Nat.le_refl _)) (.int .i64 0)).setCell (p := ⟨w.heap.size, 4, none⟩) (.inr (Nat.le_refl _)) (.int .i64 0)).setCell (p := ⟨w.heap.size, 5, none⟩) (.inr (Nat.le_refl _)) (.int .i64 0)).setCell (p := ⟨w.heap.size, 6, none⟩) (.inr (Nat.le_refl _)) (.bool false)).setCell (p := ⟨w.heap.size, 7, none⟩) (.inr (Nat.le_refl _)) (.int .u32 0)⟩

theorem size_Cm : (Tryz.prog.info? 260).map (·.size) = some 4 := by kernel_rfl

set_option maxHeartbeats 8000000 in
set_option maxRecDepth 100000 in
theorem decCm_any (v : Value) (b : List Nat) (w : World) (h : Sl w v (ints b)) (hbs : Bs b) (hcap : ∀ ao n c, v = .slice ao n c → n ≤ c) : Calls Tryz.prog 258 #[v] w fun e w' => e = .returned (.tuple #[(Cm.dval b).val, .int .u16 (Cm.derr b)]) ∧ Hid (Chg [] w w') := by
 have DE := Lib.hid (fun W (C : Chg [] w W) (hlt : w.heap.size + 1 < W.heap.size) (hl : b.length = 128) (B : Blk W (w.heap.size + 1) 260 [.int .u64 0, .int .u64 0, .int .i64 0, .int .u32 0]) => decode_any 2 v b 262 #[.pointer (some ⟨w.heap.size + 1, 0, none⟩)] (w.heap.size + 1) 32 true (decide (Cm.of (b.take 124)).Ok) 260 (cellsOf (Cm.of (b.take 124)).val) W (by decide) (h.chg C (by simp)) hbs hcap (by decide) hlt (reads_Cm (b.take 124) (fun x hx => hbs x (List.mem_of_mem_take hx)) (by rw [List.length_take]; omega) (w.heap.size + 1) W B))
 rw [Cm.derr_eq hbs, Cm.of_take] at DE
 have DL := Lib.hid (fun W (C : Chg [] w W) (hl : ¬ b.length = 128) => decode_short 2 v b 262 #[.pointer (some ⟨w.heap.size + 1, 0, none⟩)] W (h.chg C (by simp)) hl)
 have H2 : Hid (Cm.derr b ≠ 0 → (Cm.dval b).val = .agg #[.int .u64 0, .int .u64 0, .int .i64 0, .int .u32 0]) := fun h0 => by unfold Cm.dval; rw [if_neg h0]; rfl
 obtain ⟨x, hx⟩ : ∃ x, x = Cm.of b := ⟨_, rfl⟩
 have H1 : Hid (Cm.derr b = 0 → (Cm.dval b).val = .agg #[.int .u64 (x.ep : Int), .int .u64 (x.sq : Int), .int .i64 x.ct, .int .u32 (x.sm : Int)]) := fun h0 => by unfold Cm.dval; rw [if_pos h0, hx]; rfl
 have HC : Hid (cellsOf (Cm.of b).val = [.int .u64 (x.ep : Int), .int .u64 (x.sq : Int), .int .i64 x.ct, .int .u32 (x.sm : Int)]) := by show _ = _; rw [hx]; rfl
 rw [HC.out] at DE
 clear hx HC
 have HL : Hid (¬ b.length = 128 → Cm.derr b = 4) := fun hl => by
  have d : lookOf 2 b = 4 := by unfold lookOf; rw [if_pos hl]
  unfold Cm.derr
  rw [d, if_pos (by decide)]
 have HI := Cm.derr_in b
 clear hcap hbs h
 have DD : Hid (∀ W (C : Chg [] w W) (hlt : w.heap.size + 1 < W.heap.size) (B : Blk W (w.heap.size + 1) 260 [.int .u64 0, .int .u64 0, .int .i64 0, .int .u32 0]), Calls Tryz.prog 173 #[v, .int .u8 2, .func (.func 262) #[] #[.pointer (some ⟨w.heap.size + 1, 0, none⟩)]] W fun e w' => e = .returned (.int .u16 (Cm.derr b)) ∧ Hid (Chg [w.heap.size + 1] W w') ∧ (Cm.derr b = 0 → Hid (Blk w' (w.heap.size + 1) 260 [.int .u64 (x.ep : Int), .int .u64 (x.sq : Int), .int .i64 x.ct, .int .u32 (x.sm : Int)]))) := fun W C hlt B => by
  by_cases hl : b.length = 128
  ·exact DE.out W C hlt hl B
  ·rw [HL.out hl]
   refine (DL.out W C hl).mono ?_
   rintro e w' ⟨rfl, c⟩
   exact ⟨rfl, c.out.mono (by simp), fun h => absurd h (by decide)⟩
 clear DE DL HL
 generalize Cm.derr b = er at *
 generalize (Cm.dval b).val = rv at *
 by_cases h0 : er = 0
 ·subst h0
  obtain rfl := H1.out rfl
  clear H1 H2 HI
  go_enter Tryz.func258, Tryz.ntmps258
  go_wp2_with fail
  obtain ⟨W, hW⟩ : ∃ W, W = (w.alloc (.cells #[.int .u64 0, .int .u64 0, .int .i64 0, .int .u32 0] 260)).alloc (.cells #[.int .u64 0, .int .u64 0, .int .i64 0, .int .u32 0] 260) := ⟨_, rfl⟩
  rw [← hW]
  obtain ⟨B1, B2, C⟩ := rc_two_blocks w [.int .u64 0, .int .u64 0, .int .i64 0, .int .u32 0] [.int .u64 0, .int .u64 0, .int .i64 0, .int .u32 0] 260 260 hW
  replace B1 := Lib.hid B1
  replace C := Lib.hid C
  clear hW
  refine (DD.out W C.out B2.lt B2).mono ?_
  rintro e w2 ⟨rfl, C2, B3⟩
  have C3 : Hid (Chg [] w w2) := C.out.fresh C2.out (fun j hj => .inr (by rw [List.mem_singleton.1 hj]; omega))
  have B4 := Lib.hid (B1.out.chg C2.out (by simp))
  clear B1 B2 C C2 DD
  have B5 := B3 (by trivial)
  clear B3
  have k0 := B5.out.cell (j := 0) rfl
  have k1 := B5.out.cell (j := 1) rfl
  have k2 := B5.out.cell (j := 2) rfl
  have k3 := B5.out.cell (j := 3) rfl
  have f0 := B4.out.free 0
  have c0 := B4.out.cell (j := 0) rfl
  have f1 := B4.out.free 1
  have c1 := B4.out.cell (j := 1) rfl
  have f2 := B4.out.free 2
  have c2 := B4.out.cell (j := 2) rfl
  have f3 := B4.out.free 3
  have c3 := B4.out.cell (j := 3) rfl
  have hne1 : ¬ w.heap.size = w.heap.size + 1 := by omega
  go_wp2_with fail
  refine bodyPost_ret (rc_cell_and_tmp rfl _ _ w.heap.size _ _ _ _ rfl (((((B4.out).set 0 (.int .u64 (x.ep : Int))).set 1 (.int .u64 (x.sq : Int))).set 2 (.int .i64 x.ct)).set 3 (.int .u32 (x.sm : Int))) Tryz.underlying260 size_Cm) rfl ?_
  exact ⟨rfl, ((((C3.out).setCell (p := ⟨w.heap.size, 0, none⟩) (.inr (Nat.le_refl _)) (.int .u64 (x.ep : Int))).setCell (p := ⟨w.heap.size, 1, none⟩) (.inr (Nat.le_refl _)) (.int .u64 (x.sq : Int))).setCell (p := ⟨w.heap.size, 2, none⟩) (.inr (Nat.le_refl _)) (.int .i64 x.ct)).setCell (p := ⟨w.heap.size, 3, none⟩) (.inr (Nat.le_refl _)) (.int .u32 (x.sm : Int))⟩
 ·obtain rfl := H2.out h0
  have hne : (er != 0) = true := by simpa using h0
  clear H1 H2
  go_enter Tryz.func258, Tryz.ntmps258
  go_wp2_with fail
  obtain ⟨W, hW⟩ : ∃ W, W = (w.alloc (.cells #[.int .u64 0, .int .u64 0, .int .i64 0, .int .u32 0] 260)).alloc (.cells #[.int .u64 0, .int .u64 0, .int .i64 0, .int .u32 0] 260) := ⟨_, rfl⟩
  rw [← hW]
  obtain ⟨B1, B2, C⟩ := rc_two_blocks w [.int .u64 0, .int .u64 0, .int .i64 0, .int .u32 0] [.int .u64 0, .int .u64 0, .int .i64 0, .int .u32 0] 260 260 hW
  replace B1 := Lib.hid B1
  replace C := Lib.hid C
  clear hW
  refine (DD.out W C.out B2.lt B2).mono ?_
  rintro e w2 ⟨rfl, C2, B3⟩
  have C3 : Hid (Chg [] w w2) := C.out.fresh C2.out (fun j hj => .inr (by rw [List.mem_singleton.1 hj]; omega))
  have B4 := Lib.hid (B1.out.chg C2.out (by simp))
  clear B1 B2 C C2 DD
  clear B3 h0
  have f0 := B4.out.free 0
  have c0 := B4.out.cell (j := 0) rfl
  have f1 := B4.out.free 1
  have c1 := B4.out.cell (j := 1) rfl
  have f2 := B4.out.free 2
  have c2 := B4.out.cell (j := 2) rfl
  have f3 := B4.out.free 3
  have c3 := B4.out.cell (j := 3) rfl
  have hne1 : ¬ w.heap.size = w.heap.size + 1 := by omega
  go_wp2_with fail
  refine bodyPost_ret (rc_cell_and_tmp rfl _ _ w.heap.size _ _ _ _ rfl (((((B4.out).set 0 (.int .u64 0)).set 1 (.int .u64 0)).set 2 (.int .i64 0)).set 3 (.int .u32 0)) Tryz.underlying260 size_Cm) rfl ?_
  exact ⟨rfl, ((((C3.out).setCell (p := ⟨w.heap.size, 0, none⟩) (.inr (Nat.le_refl _)) (.int .u64 0)).setCell (p := ⟨w.heap.size, 1, none⟩) (.inr (Nat.le_refl _)) (.int .u64 0)).setCell (p := ⟨w.heap.size, 2, none⟩) (.inr (Nat.le_refl _)) (.int .i64 0)).setCell (p := ⟨w.heap.size, 3, none⟩) (.inr (Nat.le_refl _)) (.int .u32 0)⟩

end Go.Proofs.YtkafkdlgflkjgaaGreat
/-
  The program's Decode of a checkpoint. By an AI agent.
-/
namespace Go.Proofs.YtkafkdlgflkjgaaGreat
open Go.RowKit Crc

theorem enters_DecodeCheck (args : Array Value) (w : World) : (callFunc 174 args).run Tryz.prog w = .ok (.enter 174 args) w := by
 have h1 : (Tryz.f174.name == "runtime.NumGoroutine") = false := by kernel_rfl
 have h2 : Tryz.f174.body.isNone = false := by kernel_rfl
 have h3 : ¬ Tryz.f174.name = "runtime.NumGoroutine" := by simpa using h1
 have h4 : ¬ Tryz.f174.body = none := fun e => by rw [e] at h2; cases h2
 simp [callFunc, go_sem, Tryz.func174, h3, h4]

set_option maxHeartbeats 8000000 in
set_option maxRecDepth 100000 in
theorem reads_Ck (a : List Nat) (ha : Bs a) (hl : a.length = 124) (hb : Nat) (w : World) (B : Blk w hb 110 [.int .u64 0, .int .u64 0, .int .i64 0]) : ReadsFields w 174 #[.pointer (some ⟨hb, 0, none⟩)] hb a 28 (true) (decide (Ck.of a).Ok) 110 (cellsOf (Ck.of a).val) := by
 refine ⟨enters_DecodeCheck, fun W rb v x y t c hrb hv R hxy hx hy => ?_⟩
 have hlt := B.lt
 have hnb : ¬ hb = rb := by omega
 have hnr : ¬ rb = hb := by omega
 have hnv : Hid (∀ k, v.ownBlock = some k → k ∉ [hb]) := fun k hk => by have := hv k hk; simp; omega
 have B0 : Hid (Blk W hb 110 [.int .u64 0, .int .u64 0, .int .i64 0]) := B.chg c (by simp)
 replace R := Lib.hid R
 replace hxy := Lib.hid hxy
 replace ha := Lib.hid ha
 have f0 := B0.out.free 0
 have f1 := B0.out.free 1
 have c0 := B0.out.cell (j := 0) rfl
 have c1 := B0.out.cell (j := 1) rfl
 clear c B hv hlt
 go_enter Tryz.func174, Tryz.ntmps174
 go_wp2_with fail
 have B1 := Lib.hid ((B0.out.set 0 (.int .u64 (x : Int))).set 1 (.int .u64 (y : Int)))
 have D : Hid (Chg [hb, rb] W _) := ((Chg.refl [hb, rb] W).setCell (p := ⟨hb, 0, none⟩) (.inl (by simp)) (.int .u64 (x : Int))).setCell (p := ⟨hb, 1, none⟩) (.inl (by simp)) (.int .u64 (y : Int))
 replace R := Lib.hid (R.out.chg (((Chg.refl [hb] W).setCell (p := ⟨hb, 0, none⟩) (.inl (by simp)) (.int .u64 (x : Int))).setCell (p := ⟨hb, 1, none⟩) (.inl (by simp)) (.int .u64 (y : Int))) (by simpa using hnr) hnv.out)
 clear B0 f0 f1 c0 c1
 refine (u32_at rb v a 24 t _ R.out ha.out (by omega)).mono ?_
 rintro e w1 ⟨n0, rfl, hl0, he0, R', C⟩
 replace hl0 : n0 < 4294967296 := hl0
 replace he0 := Lib.hid he0
 have B2 := Lib.hid (B1.out.chg C.out (by simpa using hnb))
 have D' : Hid (Chg [hb, rb] W w1) := D.out.trans (C.out.mono (by simp))
 clear B1 C R D
 have R := R'
 have B1 := B2
 have D := D'
 clear R' B2 D'
 have fj := B1.out.free 2
 have cj := B1.out.cell (j := 2) rfl
 have B2 := Lib.hid (B1.out.set 2 (.int .i64 (n0 : Int)))
 have D' := Lib.hid (D.out.setCell (p := ⟨hb, 2, none⟩) (.inl (by simp)) (.int .i64 (n0 : Int)))
 have R' := Lib.hid (R.out.chg ((Chg.refl [hb] w1).setCell (p := ⟨hb, 2, none⟩) (.inl (by simp)) (.int .i64 (n0 : Int))) (by simpa using hnr) hnv.out)
 clear R D B1
 have R := R'
 have B1 := B2
 have D := D'
 clear R' B2 D'
 have k0 := B1.out.cell (j := 0) rfl
 have k1 := B1.out.cell (j := 1) rfl
 have k2 := B1.out.cell (j := 2) rfl
 have VA := Lib.hid (fun W => checkValid_any (⟨x, y, n0⟩ : Ck) W)
 simp only [Ck.val] at VA
 obtain ⟨r, hr⟩ : ∃ r, r = decide (⟨x, y, n0⟩ : Ck).Ok := ⟨_, rfl⟩
 rw [← hr] at VA
 replace hr := Lib.hid hr
 go_wp2_with fail
 refine (VA.out _).mono ?_
 rintro e wz ⟨rfl, C⟩
 have D2 := Lib.hid (D.out.trans (C.out.mono (by simp)))
 have B2 := Lib.hid (B1.out.chg C.out (by simp))
 have R2 := Lib.hid (R.out.chg C.out (by simp) (by simp))
 clear k0 k1 k2 D B1 R C VA
 go_wp2_with fail
 go_ret
 refine ⟨r, rfl, by rw [Bool.and_true]; exact R2, D2, fun ht => ?_⟩
 rw [Bool.and_true] at ht
 obtain ⟨e1, e2⟩ := hxy.out ht
 have e : (⟨x, y, n0⟩ : Ck) = Ck.of a := by rw [e1, e2, he0.out ht]; rfl
 refine ⟨by rw [hr.out, e], ?_⟩
 rw [← e]
 exact B2

theorem size_Ck : (Tryz.prog.info? 110).map (·.size) = some 3 := by kernel_rfl

set_option maxHeartbeats 8000000 in
set_option maxRecDepth 100000 in
theorem decCk_any (v : Value) (b : List Nat) (w : World) (h : Sl w v (ints b)) (hbs : Bs b) (hcap : ∀ ao n c, v = .slice ao n c → n ≤ c) : Calls Tryz.prog 116 #[v] w fun e w' => e = .returned (.tuple #[(Ck.dval b).val, .int .u16 (Ck.derr b)]) ∧ Hid (Chg [] w w') := by
 have DE := Lib.hid (fun W (C : Chg [] w W) (hlt : w.heap.size + 1 < W.heap.size) (hl : b.length = 128) (B : Blk W (w.heap.size + 1) 110 [.int .u64 0, .int .u64 0, .int .i64 0]) => decode_any 3 v b 174 #[.pointer (some ⟨w.heap.size + 1, 0, none⟩)] (w.heap.size + 1) 28 true (decide (Ck.of (b.take 124)).Ok) 110 (cellsOf (Ck.of (b.take 124)).val) W (by decide) (h.chg C (by simp)) hbs hcap (by decide) hlt (reads_Ck (b.take 124) (fun x hx => hbs x (List.mem_of_mem_take hx)) (by rw [List.length_take]; omega) (w.heap.size + 1) W B))
 rw [Ck.derr_eq hbs, Ck.of_take] at DE
 have DL := Lib.hid (fun W (C : Chg [] w W) (hl : ¬ b.length = 128) => decode_short 3 v b 174 #[.pointer (some ⟨w.heap.size + 1, 0, none⟩)] W (h.chg C (by simp)) hl)
 have H2 : Hid (Ck.derr b ≠ 0 → (Ck.dval b).val = .agg #[.int .u64 0, .int .u64 0, .int .i64 0]) := fun h0 => by unfold Ck.dval; rw [if_neg h0]; rfl
 obtain ⟨x, hx⟩ : ∃ x, x = Ck.of b := ⟨_, rfl⟩
 have H1 : Hid (Ck.derr b = 0 → (Ck.dval b).val = .agg #[.int .u64 (x.ep : Int), .int .u64 (x.sq : Int), .int .i64 x.tl]) := fun h0 => by unfold Ck.dval; rw [if_pos h0, hx]; rfl
 have HC : Hid (cellsOf (Ck.of b).val = [.int .u64 (x.ep : Int), .int .u64 (x.sq : Int), .int .i64 x.tl]) := by show _ = _; rw [hx]; rfl
 rw [HC.out] at DE
 clear hx HC
 have HL : Hid (¬ b.length = 128 → Ck.derr b = 4) := fun hl => by
  have d : lookOf 3 b = 4 := by unfold lookOf; rw [if_pos hl]
  unfold Ck.derr
  rw [d, if_pos (by decide)]
 have HI := Ck.derr_in b
 clear hcap hbs h
 have DD : Hid (∀ W (C : Chg [] w W) (hlt : w.heap.size + 1 < W.heap.size) (B : Blk W (w.heap.size + 1) 110 [.int .u64 0, .int .u64 0, .int .i64 0]), Calls Tryz.prog 173 #[v, .int .u8 3, .func (.func 174) #[] #[.pointer (some ⟨w.heap.size + 1, 0, none⟩)]] W fun e w' => e = .returned (.int .u16 (Ck.derr b)) ∧ Hid (Chg [w.heap.size + 1] W w') ∧ (Ck.derr b = 0 → Hid (Blk w' (w.heap.size + 1) 110 [.int .u64 (x.ep : Int), .int .u64 (x.sq : Int), .int .i64 x.tl]))) := fun W C hlt B => by
  by_cases hl : b.length = 128
  ·exact DE.out W C hlt hl B
  ·rw [HL.out hl]
   refine (DL.out W C hl).mono ?_
   rintro e w' ⟨rfl, c⟩
   exact ⟨rfl, c.out.mono (by simp), fun h => absurd h (by decide)⟩
 clear DE DL HL
 generalize Ck.derr b = er at *
 generalize (Ck.dval b).val = rv at *
 by_cases h0 : er = 0
 ·subst h0
  obtain rfl := H1.out rfl
  clear H1 H2 HI
  go_enter Tryz.func116, Tryz.ntmps116
  go_wp2_with fail
  obtain ⟨W, hW⟩ : ∃ W, W = (w.alloc (.cells #[.int .u64 0, .int .u64 0, .int .i64 0] 110)).alloc (.cells #[.int .u64 0, .int .u64 0, .int .i64 0] 110) := ⟨_, rfl⟩
  rw [← hW]
  obtain ⟨B1, B2, C⟩ := rc_two_blocks w [.int .u64 0, .int .u64 0, .int .i64 0] [.int .u64 0, .int .u64 0, .int .i64 0] 110 110 hW
  replace B1 := Lib.hid B1
  replace C := Lib.hid C
  clear hW
  refine (DD.out W C.out B2.lt B2).mono ?_
  rintro e w2 ⟨rfl, C2, B3⟩
  have C3 : Hid (Chg [] w w2) := C.out.fresh C2.out (fun j hj => .inr (by rw [List.mem_singleton.1 hj]; omega))
  have B4 := Lib.hid (B1.out.chg C2.out (by simp))
  clear B1 B2 C C2 DD
  have B5 := B3 (by trivial)
  clear B3
  have k0 := B5.out.cell (j := 0) rfl
  have k1 := B5.out.cell (j := 1) rfl
  have k2 := B5.out.cell (j := 2) rfl
  have f0 := B4.out.free 0
  have c0 := B4.out.cell (j := 0) rfl
  have f1 := B4.out.free 1
  have c1 := B4.out.cell (j := 1) rfl
  have f2 := B4.out.free 2
  have c2 := B4.out.cell (j := 2) rfl
  have hne1 : ¬ w.heap.size = w.heap.size + 1 := by omega
  go_wp2_with fail
  refine bodyPost_ret (rc_cell_and_tmp rfl _ _ w.heap.size _ _ _ _ rfl ((((B4.out).set 0 (.int .u64 (x.ep : Int))).set 1 (.int .u64 (x.sq : Int))).set 2 (.int .i64 x.tl)) Tryz.underlying110 size_Ck) rfl ?_
  exact ⟨rfl, (((C3.out).setCell (p := ⟨w.heap.size, 0, none⟩) (.inr (Nat.le_refl _)) (.int .u64 (x.ep : Int))).setCell (p := ⟨w.heap.size, 1, none⟩) (.inr (Nat.le_refl _)) (.int .u64 (x.sq : Int))).setCell (p := ⟨w.heap.size, 2, none⟩) (.inr (Nat.le_refl _)) (.int .i64 x.tl)⟩
 ·obtain rfl := H2.out h0
  have hne : (er != 0) = true := by simpa using h0
  clear H1 H2
  go_enter Tryz.func116, Tryz.ntmps116
  go_wp2_with fail
  obtain ⟨W, hW⟩ : ∃ W, W = (w.alloc (.cells #[.int .u64 0, .int .u64 0, .int .i64 0] 110)).alloc (.cells #[.int .u64 0, .int .u64 0, .int .i64 0] 110) := ⟨_, rfl⟩
  rw [← hW]
  obtain ⟨B1, B2, C⟩ := rc_two_blocks w [.int .u64 0, .int .u64 0, .int .i64 0] [.int .u64 0, .int .u64 0, .int .i64 0] 110 110 hW
  replace B1 := Lib.hid B1
  replace C := Lib.hid C
  clear hW
  refine (DD.out W C.out B2.lt B2).mono ?_
  rintro e w2 ⟨rfl, C2, B3⟩
  have C3 : Hid (Chg [] w w2) := C.out.fresh C2.out (fun j hj => .inr (by rw [List.mem_singleton.1 hj]; omega))
  have B4 := Lib.hid (B1.out.chg C2.out (by simp))
  clear B1 B2 C C2 DD
  clear B3 h0
  have f0 := B4.out.free 0
  have c0 := B4.out.cell (j := 0) rfl
  have f1 := B4.out.free 1
  have c1 := B4.out.cell (j := 1) rfl
  have f2 := B4.out.free 2
  have c2 := B4.out.cell (j := 2) rfl
  have hne1 : ¬ w.heap.size = w.heap.size + 1 := by omega
  go_wp2_with fail
  refine bodyPost_ret (rc_cell_and_tmp rfl _ _ w.heap.size _ _ _ _ rfl ((((B4.out).set 0 (.int .u64 0)).set 1 (.int .u64 0)).set 2 (.int .i64 0)) Tryz.underlying110 size_Ck) rfl ?_
  exact ⟨rfl, (((C3.out).setCell (p := ⟨w.heap.size, 0, none⟩) (.inr (Nat.le_refl _)) (.int .u64 0)).setCell (p := ⟨w.heap.size, 1, none⟩) (.inr (Nat.le_refl _)) (.int .u64 0)).setCell (p := ⟨w.heap.size, 2, none⟩) (.inr (Nat.le_refl _)) (.int .i64 0)⟩

end Go.Proofs.YtkafkdlgflkjgaaGreat
