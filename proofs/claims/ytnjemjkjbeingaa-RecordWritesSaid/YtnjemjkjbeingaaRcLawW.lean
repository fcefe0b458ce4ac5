/-
  The three Encodes. By an AI agent. Printed by gen_rclaww.py.
-/
import Derived.Test.YtnjemjkjbeingaaRcTri
import Derived.Test.YtnjemjkjbeingaaRcBook
namespace Go.Proofs.Ytnjemjkjbeingaa
open Go.RowKit Crc

set_option maxHeartbeats 16000000 in
set_option maxRecDepth 100000 in
theorem recordWrites_core (h : Hd) (c : Cm) (k : Ck) (w : World) (fh : h.Fit) (fc : c.Fit) (fk : k.Fit) :
    Calls Try.prog 3 #[h.val, c.val, k.val] w fun e w' => e = .returned (.bool true) ∧ Hid (Chg [] w w') := by
  have KN := Lib.hid known_any
  have Ph := Lib.hid (fun W => encHd_any h W fh.ep fh.sq fh.sm)
  have Rh := Lib.hid (fun W => rEncodeHeader_any h W fh.sm)
  have Dh := Lib.hid (Hd.reads h fh)
  have Lh := h.enc_len
  have Eh : h.err = 0 ∨ h.err = 80 := h.err_in.elim (fun m => .inl m.1) (fun m => .inr m.1)
  have Sh := Lib.hid (fun W u v (k1 : Sl W u (ints h.enc)) (k2 : Sl W v (ints h.enc)) => sameB_any u v h.enc h.enc W k1 k2 (by omega) (by omega))
  rw [decide_eq_true rfl] at Sh
  have Qh := Lib.hid (fun W => neq_header_same h.ep h.sq h.ix h.ct h.mb h.rw' h.sm h.esc W)
  have Pc := Lib.hid (fun W => encCm_any c W fc.ep fc.sq fc.sm)
  have Rc := Lib.hid (fun W => rEncodeCommit_any c W fc.sm)
  have Dc := Lib.hid (Cm.reads c fc)
  have Lc := c.enc_len
  have Ec : c.err = 0 ∨ c.err = 80 := c.err_in.elim (fun m => .inl m.1) (fun m => .inr m.1)
  have Sc := Lib.hid (fun W u v (k1 : Sl W u (ints c.enc)) (k2 : Sl W v (ints c.enc)) => sameB_any u v c.enc c.enc W k1 k2 (by omega) (by omega))
  rw [decide_eq_true rfl] at Sc
  have Qc := Lib.hid (fun W => neq_commit_same c.ep c.sq c.ct c.sm W)
  have Pk := Lib.hid (fun W => encCk_any k W fk.ep fk.sq)
  have Rk := Lib.hid (fun W => rEncodeCheck_any k W trivial)
  have Dk := Lib.hid (Ck.reads k)
  have Lk := k.enc_len
  have Ek : k.err = 0 ∨ k.err = 80 := k.err_in.elim (fun m => .inl m.1) (fun m => .inr m.1)
  have Sk := Lib.hid (fun W u v (k1 : Sl W u (ints k.enc)) (k2 : Sl W v (ints k.enc)) => sameB_any u v k.enc k.enc W k1 k2 (by omega) (by omega))
  rw [decide_eq_true rfl] at Sk
  have Qk := Lib.hid (fun W => neq_check_same k.ep k.sq k.tl W)
  unfold PcEncs at Ph Pc Pk
  unfold RcEncs at Rh Rc Rk
  unfold Hd.val at Ph Rh Dh
  unfold Cm.val at Pc Rc Dc
  unfold Ck.val at Pk Rk Dk
  unfold Hd.val Cm.val Ck.val
  generalize h.enc = eh at *
  generalize h.err = rh at *
  generalize c.enc = ec at *
  generalize c.err = rc at *
  generalize k.enc = ek at *
  generalize k.err = rk at *
  clear fh fc fk
  go_enter Try.func3, Try.ntmps3
  go_upto_region 1 with fail
  refine wp_named2 (fun W1 hW1 => ?_)
  obtain ⟨BH, BC, BKk, C1⟩ := rc_three_blocks w [.int .u64 (h.ep : Int), .int .u64 (h.sq : Int), .int .i64 h.ix, .int .i64 h.ct, .int .i64 h.mb, .int .i64 h.rw', .bool h.esc, .int .u32 (h.sm : Int)] [.int .u64 (c.ep : Int), .int .u64 (c.sq : Int), .int .i64 c.ct, .int .u32 (c.sm : Int)] [.int .u64 (k.ep : Int), .int .u64 (k.sq : Int), .int .i64 k.tl] 25 27 29 hW1
  have Bh : Hid (∀ W, Chg [] W1 W → Blk W (w.heap.size) 25 [.int .u64 (h.ep : Int), .int .u64 (h.sq : Int), .int .i64 h.ix, .int .i64 h.ct, .int .i64 h.mb, .int .i64 h.rw', .bool h.esc, .int .u32 (h.sm : Int)]) := fun W d => BH.chg d (by simp)
  have Bc : Hid (∀ W, Chg [] W1 W → Blk W (w.heap.size + 1) 27 [.int .u64 (c.ep : Int), .int .u64 (c.sq : Int), .int .i64 c.ct, .int .u32 (c.sm : Int)]) := fun W d => BC.chg d (by simp)
  have Bk : Hid (∀ W, Chg [] W1 W → Blk W (w.heap.size + 1 + 1) 29 [.int .u64 (k.ep : Int), .int .u64 (k.sq : Int), .int .i64 k.tl]) := fun W d => BKk.chg d (by simp)
  replace C1 := Lib.hid C1
  clear hW1 BH BC BKk
  have G1 : Hid (Chg [] W1 W1) := Chg.refl _ _
  have q0 := (Bh.out _ G1.out).cell (j := 0) rfl
  have q1 := (Bh.out _ G1.out).cell (j := 1) rfl
  have q2 := (Bh.out _ G1.out).cell (j := 2) rfl
  have q3 := (Bh.out _ G1.out).cell (j := 3) rfl
  have q4 := (Bh.out _ G1.out).cell (j := 4) rfl
  have q5 := (Bh.out _ G1.out).cell (j := 5) rfl
  have q6 := (Bh.out _ G1.out).cell (j := 6) rfl
  have q7 := (Bh.out _ G1.out).cell (j := 7) rfl
  go_wp2_with fail
  refine (Ph.out W1).mono ?_
  rintro e w2 ⟨va, rfl, Oa, C⟩
  have G2 := Lib.hid (G1.out.trans C.out)
  have Na : Hid (Chg [] W1 w2) := C
  have z2 : W1.heap.size ≤ w2.heap.size := C.out.size
  clear C q0 q1 q2 q3 q4 q5 q6 q7
  have Aa : Hid (∀ k, va.ownBlock = some k → W1.heap.size ≤ k ∧ k < w2.heap.size) := fun k hk => by have := Oa.out.lt k hk; exact this
  clear Na
  have q0 := (Bc.out _ G2.out).cell (j := 0) rfl
  have q1 := (Bc.out _ G2.out).cell (j := 1) rfl
  have q2 := (Bc.out _ G2.out).cell (j := 2) rfl
  have q3 := (Bc.out _ G2.out).cell (j := 3) rfl
  go_wp2_with fail
  refine (Pc.out w2).mono ?_
  rintro e w3 ⟨vb, rfl, Ob, C⟩
  have G3 := Lib.hid (G2.out.trans C.out)
  have Nb : Hid (Chg [] w2 w3) := C
  have z3 : w2.heap.size ≤ w3.heap.size := C.out.size
  clear C q0 q1 q2 q3
  replace Oa := Lib.hid (owns_chg Oa.out Nb.out (by simp))
  have Ab : Hid (∀ k, vb.ownBlock = some k → w2.heap.size ≤ k ∧ k < w3.heap.size) := fun k hk => by have := Ob.out.lt k hk; exact this
  clear Nb
  have q0 := (Bk.out _ G3.out).cell (j := 0) rfl
  have q1 := (Bk.out _ G3.out).cell (j := 1) rfl
  have q2 := (Bk.out _ G3.out).cell (j := 2) rfl
  go_wp2_with fail
  refine (Pk.out w3).mono ?_
  rintro e w4 ⟨vd, rfl, Od, C⟩
  have G4 := Lib.hid (G3.out.trans C.out)
  have Nd : Hid (Chg [] w3 w4) := C
  have z4 : w3.heap.size ≤ w4.heap.size := C.out.size
  clear C q0 q1 q2
  replace Oa := Lib.hid (owns_chg Oa.out Nd.out (by simp))
  replace Ob := Lib.hid (owns_chg Ob.out Nd.out (by simp))
  have Ad : Hid (∀ k, vd.ownBlock = some k → w3.heap.size ≤ k ∧ k < w4.heap.size) := fun k hk => by have := Od.out.lt k hk; exact this
  clear Nd
  have q0 := (Bh.out _ G4.out).cell (j := 0) rfl
  have q1 := (Bh.out _ G4.out).cell (j := 1) rfl
  have q2 := (Bh.out _ G4.out).cell (j := 2) rfl
  have q3 := (Bh.out _ G4.out).cell (j := 3) rfl
  have q4 := (Bh.out _ G4.out).cell (j := 4) rfl
  have q5 := (Bh.out _ G4.out).cell (j := 5) rfl
  have q6 := (Bh.out _ G4.out).cell (j := 6) rfl
  have q7 := (Bh.out _ G4.out).cell (j := 7) rfl
  go_wp2_with fail
  refine (Ph.out w4).mono ?_
  rintro e w5 ⟨vg, rfl, Og, C⟩
  have G5 := Lib.hid (G4.out.trans C.out)
  have Ng : Hid (Chg [] w4 w5) := C
  have z5 : w4.heap.size ≤ w5.heap.size := C.out.size
  clear C q0 q1 q2 q3 q4 q5 q6 q7
  replace Oa := Lib.hid (owns_chg Oa.out Ng.out (by simp))
  replace Ob := Lib.hid (owns_chg Ob.out Ng.out (by simp))
  replace Od := Lib.hid (owns_chg Od.out Ng.out (by simp))
  have Ag : Hid (∀ k, vg.ownBlock = some k → w4.heap.size ≤ k ∧ k < w5.heap.size) := fun k hk => by have := Og.out.lt k hk; exact this
  clear Ng
  have q0 := (Bh.out _ G5.out).cell (j := 0) rfl
  have q1 := (Bh.out _ G5.out).cell (j := 1) rfl
  have q2 := (Bh.out _ G5.out).cell (j := 2) rfl
  have q3 := (Bh.out _ G5.out).cell (j := 3) rfl
  have q4 := (Bh.out _ G5.out).cell (j := 4) rfl
  have q5 := (Bh.out _ G5.out).cell (j := 5) rfl
  have q6 := (Bh.out _ G5.out).cell (j := 6) rfl
  have q7 := (Bh.out _ G5.out).cell (j := 7) rfl
  go_wp2_with fail
  refine (Rh.out w5).mono ?_
  rintro e w6 ⟨vra, rfl, Ora, C⟩
  have G6 := Lib.hid (G5.out.trans C.out)
  have Nra : Hid (Chg [] w5 w6) := C
  have z6 : w5.heap.size ≤ w6.heap.size := C.out.size
  clear C q0 q1 q2 q3 q4 q5 q6 q7
  replace Oa := Lib.hid (owns_chg Oa.out Nra.out (by simp))
  replace Ob := Lib.hid (owns_chg Ob.out Nra.out (by simp))
  replace Od := Lib.hid (owns_chg Od.out Nra.out (by simp))
  replace Og := Lib.hid (owns_chg Og.out Nra.out (by simp))
  clear Nra
  have q0 := (Bc.out _ G6.out).cell (j := 0) rfl
  have q1 := (Bc.out _ G6.out).cell (j := 1) rfl
  have q2 := (Bc.out _ G6.out).cell (j := 2) rfl
  have q3 := (Bc.out _ G6.out).cell (j := 3) rfl
  go_wp2_with fail
  refine (Rc.out w6).mono ?_
  rintro e w7 ⟨vrb, rfl, Orb, C⟩
  have G7 := Lib.hid (G6.out.trans C.out)
  have Nrb : Hid (Chg [] w6 w7) := C
  have z7 : w6.heap.size ≤ w7.heap.size := C.out.size
  clear C q0 q1 q2 q3
  replace Oa := Lib.hid (owns_chg Oa.out Nrb.out (by simp))
  replace Ob := Lib.hid (owns_chg Ob.out Nrb.out (by simp))
  replace Od := Lib.hid (owns_chg Od.out Nrb.out (by simp))
  replace Og := Lib.hid (owns_chg Og.out Nrb.out (by simp))
  replace Ora := Lib.hid (owns_chg Ora.out Nrb.out (by simp))
  clear Nrb
  have q0 := (Bk.out _ G7.out).cell (j := 0) rfl
  have q1 := (Bk.out _ G7.out).cell (j := 1) rfl
  have q2 := (Bk.out _ G7.out).cell (j := 2) rfl
  go_wp2_with fail
  refine (Rk.out w7).mono ?_
  rintro e w8 ⟨vrd, rfl, Ord, C⟩
  have G8 := Lib.hid (G7.out.trans C.out)
  have Nrd : Hid (Chg [] w7 w8) := C
  have z8 : w7.heap.size ≤ w8.heap.size := C.out.size
  clear C q0 q1 q2
  replace Oa := Lib.hid (owns_chg Oa.out Nrd.out (by simp))
  replace Ob := Lib.hid (owns_chg Ob.out Nrd.out (by simp))
  replace Od := Lib.hid (owns_chg Od.out Nrd.out (by simp))
  replace Og := Lib.hid (owns_chg Og.out Nrd.out (by simp))
  replace Ora := Lib.hid (owns_chg Ora.out Nrd.out (by simp))
  replace Orb := Lib.hid (owns_chg Orb.out Nrd.out (by simp))
  clear Nrd
  clear Ph Pc Pk Rh Rc Rk
  go_upto_region 9 with fail
  refine wp_named2 (fun w9 hw9 => ?_)
  have H9 : Hid (Chg [] w8 w9) := by show Chg _ _ _; rw [hw9]; exact (Chg.refl _ _).alloc _
  have BK : Hid (BkLine w9 W1.heap.size w8.heap.size (.slice none 0 0) [] W1.heap.size) := by
    show BkLine _ _ _ _ _ _
    rw [hw9]
    exact BkLine.begin W1.heap.size W1.heap.size (by omega) (by omega)
  obtain ⟨bb, hbb⟩ : ∃ b, b = w8.heap.size := ⟨_, rfl⟩
  have h8b : w8.heap.size ≤ bb := Nat.le_of_eq hbb.symm
  rw [← hbb] at BK ⊢
  clear hw9 hbb
  have o0 := Lib.hid (own_rowB (B := W1.heap.size) (owns_chg Oa.out H9.out (by simp)) (by omega))
  go_wp2_with fail
  refine (BK.out.add va (rowB eh) o0.out (rowB_len _ (by omega)) Aa.out (by omega) (by omega) (by simp)).mono ?_
  rintro e w10 ⟨lv0, rfl, BK', K⟩
  have H10 := Lib.hid (K.out w8 H9.out h8b)
  clear BK K o0 H9
  have BK := BK'
  clear BK'
  have o1 := Lib.hid (own_rowB (B := W1.heap.size) (owns_chg Ob.out H10.out (by simp)) (by omega))
  go_wp2_with fail
  refine (BK.out.add vb (rowB ec) o1.out (rowB_len _ (by omega)) Ab.out (by omega) (by omega) (by simp)).mono ?_
  rintro e w11 ⟨lv1, rfl, BK', K⟩
  have H11 := Lib.hid (K.out w8 H10.out h8b)
  clear BK K o1 H10
  have BK := BK'
  clear BK'
  have o2 := Lib.hid (own_rowB (B := W1.heap.size) (owns_chg Od.out H11.out (by simp)) (by omega))
  go_wp2_with fail
  refine (BK.out.add vd (rowB ek) o2.out (rowB_len _ (by omega)) Ad.out (by omega) (by omega) (by simp)).mono ?_
  rintro e w12 ⟨lv2, rfl, BK', K⟩
  have H12 := Lib.hid (K.out w8 H11.out h8b)
  clear BK K o2 H11
  have BK := BK'
  clear BK'
  have o3 := Lib.hid (own_rowB (B := W1.heap.size) (owns_chg Og.out H12.out (by simp)) (by omega))
  go_wp2_with fail
  refine (BK.out.add vg (rowB eh) o3.out (rowB_len _ (by omega)) Ag.out (by omega) (by omega) (by simp)).mono ?_
  rintro e w13 ⟨lv3, rfl, BK', K⟩
  have H13 := Lib.hid (K.out w8 H12.out h8b)
  clear BK K o3 H12
  have BK := BK'
  clear BK'
  have sa : Hid (∀ W, Chg [] w8 W → Sl W va (ints eh)) := fun W c => Sl.owned (owns_chg Oa.out c (by simp))
  have sb : Hid (∀ W, Chg [] w8 W → Sl W vb (ints ec)) := fun W c => Sl.owned (owns_chg Ob.out c (by simp))
  have sd : Hid (∀ W, Chg [] w8 W → Sl W vd (ints ek)) := fun W c => Sl.owned (owns_chg Od.out c (by simp))
  have sg : Hid (∀ W, Chg [] w8 W → Sl W vg (ints eh)) := fun W c => Sl.owned (owns_chg Og.out c (by simp))
  have sra : Hid (∀ W, Chg [] w8 W → Sl W vra (ints eh)) := fun W c => Sl.owned (owns_chg Ora.out c (by simp))
  have srb : Hid (∀ W, Chg [] w8 W → Sl W vrb (ints ec)) := fun W c => Sl.owned (owns_chg Orb.out c (by simp))
  have srd : Hid (∀ W, Chg [] w8 W → Sl W vrd (ints ek)) := fun W c => Sl.owned (owns_chg Ord.out c (by simp))
  have ca : Hid (∀ ao n c, va = .slice ao n c → n ≤ c) := own_caps2 Oa.out
  have cb : Hid (∀ ao n c, vb = .slice ao n c → n ≤ c) := own_caps2 Ob.out
  have cd : Hid (∀ ao n c, vd = .slice ao n c → n ≤ c) := own_caps2 Od.out
  have M : Hid (Chg [] w13 w13) := Chg.refl _ _
  clear Oa Aa Ob Ab Od Ad Og Ag Ora Orb Ord
  go_wp2_with fail
  refine (Sh.out w13 va vra (sa.out _ H13.out) (sra.out _ H13.out)).mono ?_
  rintro e w14 ⟨rfl, C⟩
  replace M := Lib.hid (M.out.trans C.out)
  replace H13 := Lib.hid (H13.out.trans C.out)
  clear C
  go_wp2_with fail
  refine (Sc.out w14 vb vrb (sb.out _ H13.out) (srb.out _ H13.out)).mono ?_
  rintro e w15 ⟨rfl, C⟩
  replace M := Lib.hid (M.out.trans C.out)
  replace H13 := Lib.hid (H13.out.trans C.out)
  clear C
  go_wp2_with fail
  refine (Sk.out w15 vd vrd (sd.out _ H13.out) (srd.out _ H13.out)).mono ?_
  rintro e w16 ⟨rfl, C⟩
  replace M := Lib.hid (M.out.trans C.out)
  replace H13 := Lib.hid (H13.out.trans C.out)
  clear C
  go_wp2_with fail
  refine (Sh.out w16 vg vra (sg.out _ H13.out) (sra.out _ H13.out)).mono ?_
  rintro e w17 ⟨rfl, C⟩
  replace M := Lib.hid (M.out.trans C.out)
  replace H13 := Lib.hid (H13.out.trans C.out)
  clear C
  go_wp2_with fail
  refine (KN.out w17).mono ?_
  rintro e w18 ⟨rfl, C⟩
  replace M := Lib.hid (M.out.trans C.out)
  replace H13 := Lib.hid (H13.out.trans C.out)
  clear C KN Sh Sc Sk sg sra srb srd
  have G18 : Hid (Chg [] W1 w18) := G8.out.trans H13.out
  clear G1 G2 G3 G4 G5 G6 G7
  rcases Eh with e0 | e0
  · subst e0
    go_wp2_with fail
    refine (Dh.out (by trivial) va w18 (sa.out _ H13.out) ca.out).mono ?_
    rintro e w19 ⟨rfl, C⟩
    replace M := Lib.hid (M.out.trans C.out)
    replace H13 := Lib.hid (H13.out.trans C.out)
    replace G18 := Lib.hid (G18.out.trans C.out)
    clear C Dh
    go_upto_region 18 with fail
    refine wp_named2 (fun w20 hw => ?_)
    have C : Hid (Chg [] w19 w20) := by show Chg _ _ _; rw [hw]; exact (Chg.refl _ _).alloc _
    have XB : Hid (Blk w20 w19.heap.size 25 [.int .u64 (h.ep : Int), .int .u64 (h.sq : Int), .int .i64 h.ix, .int .i64 h.ct, .int .i64 h.mb, .int .i64 h.rw', .bool h.esc, .int .u32 (h.sm : Int)]) := by show Blk _ _ _ _; rw [hw]; exact Blk.made w19 [.int .u64 (h.ep : Int), .int .u64 (h.sq : Int), .int .i64 h.ix, .int .i64 h.ct, .int .i64 h.mb, .int .i64 h.rw', .bool h.esc, .int .u32 (h.sm : Int)] _
    replace M := Lib.hid (M.out.trans C.out)
    replace H13 := Lib.hid (H13.out.trans C.out)
    replace G18 := Lib.hid (G18.out.trans C.out)
    clear C hw
    have x0 := XB.out.cell (j := 0) rfl
    have q0 := (Bh.out _ G18.out).cell (j := 0) rfl
    have x1 := XB.out.cell (j := 1) rfl
    have q1 := (Bh.out _ G18.out).cell (j := 1) rfl
    have x2 := XB.out.cell (j := 2) rfl
    have q2 := (Bh.out _ G18.out).cell (j := 2) rfl
    have x3 := XB.out.cell (j := 3) rfl
    have q3 := (Bh.out _ G18.out).cell (j := 3) rfl
    have x4 := XB.out.cell (j := 4) rfl
    have q4 := (Bh.out _ G18.out).cell (j := 4) rfl
    have x5 := XB.out.cell (j := 5) rfl
    have q5 := (Bh.out _ G18.out).cell (j := 5) rfl
    have x6 := XB.out.cell (j := 6) rfl
    have q6 := (Bh.out _ G18.out).cell (j := 6) rfl
    have x7 := XB.out.cell (j := 7) rfl
    have q7 := (Bh.out _ G18.out).cell (j := 7) rfl
    have nq := Qh.out w20
    go_upto_region 20 with fail
    clear nq XB Qh x0 q0 x1 q1 x2 q2 x3 q3 x4 q4 x5 q5 x6 q6 x7 q7
    rcases Ec with e1 | e1
    · subst e1
      go_wp2_with fail
      refine (Dc.out (by trivial) vb w20 (sb.out _ H13.out) cb.out).mono ?_
      rintro e w21 ⟨rfl, C⟩
      replace M := Lib.hid (M.out.trans C.out)
      replace H13 := Lib.hid (H13.out.trans C.out)
      replace G18 := Lib.hid (G18.out.trans C.out)
      clear C Dc
      go_upto_region 22 with fail
      refine wp_named2 (fun w22 hw => ?_)
      have C : Hid (Chg [] w21 w22) := by show Chg _ _ _; rw [hw]; exact (Chg.refl _ _).alloc _
      have XB : Hid (Blk w22 w21.heap.size 27 [.int .u64 (c.ep : Int), .int .u64 (c.sq : Int), .int .i64 c.ct, .int .u32 (c.sm : Int)]) := by show Blk _ _ _ _; rw [hw]; exact Blk.made w21 [.int .u64 (c.ep : Int), .int .u64 (c.sq : Int), .int .i64 c.ct, .int .u32 (c.sm : Int)] _
      replace M := Lib.hid (M.out.trans C.out)
      replace H13 := Lib.hid (H13.out.trans C.out)
      replace G18 := Lib.hid (G18.out.trans C.out)
      clear C hw
      have x0 := XB.out.cell (j := 0) rfl
      have q0 := (Bc.out _ G18.out).cell (j := 0) rfl
      have x1 := XB.out.cell (j := 1) rfl
      have q1 := (Bc.out _ G18.out).cell (j := 1) rfl
      have x2 := XB.out.cell (j := 2) rfl
      have q2 := (Bc.out _ G18.out).cell (j := 2) rfl
      have x3 := XB.out.cell (j := 3) rfl
      have q3 := (Bc.out _ G18.out).cell (j := 3) rfl
      have nq := Qc.out w22
      go_upto_region 24 with fail
      clear nq XB Qc x0 q0 x1 q1 x2 q2 x3 q3
      rcases Ek with e2 | e2
      · subst e2
        go_wp2_with fail
        refine (Dk.out (by trivial) vd w22 (sd.out _ H13.out) cd.out).mono ?_
        rintro e w23 ⟨rfl, C⟩
        replace M := Lib.hid (M.out.trans C.out)
        replace H13 := Lib.hid (H13.out.trans C.out)
        replace G18 := Lib.hid (G18.out.trans C.out)
        clear C Dk
        go_upto_region 26 with fail
        refine wp_named2 (fun w24 hw => ?_)
        have C : Hid (Chg [] w23 w24) := by show Chg _ _ _; rw [hw]; exact (Chg.refl _ _).alloc _
        have XB : Hid (Blk w24 w23.heap.size 29 [.int .u64 (k.ep : Int), .int .u64 (k.sq : Int), .int .i64 k.tl]) := by show Blk _ _ _ _; rw [hw]; exact Blk.made w23 [.int .u64 (k.ep : Int), .int .u64 (k.sq : Int), .int .i64 k.tl] _
        replace M := Lib.hid (M.out.trans C.out)
        replace H13 := Lib.hid (H13.out.trans C.out)
        replace G18 := Lib.hid (G18.out.trans C.out)
        clear C hw
        have x0 := XB.out.cell (j := 0) rfl
        have q0 := (Bk.out _ G18.out).cell (j := 0) rfl
        have x1 := XB.out.cell (j := 1) rfl
        have q1 := (Bk.out _ G18.out).cell (j := 1) rfl
        have x2 := XB.out.cell (j := 2) rfl
        have q2 := (Bk.out _ G18.out).cell (j := 2) rfl
        have nq := Qk.out w24
        go_upto_region 28 with fail
        clear nq XB Qk x0 q0 x1 q1 x2 q2
        go_wp2_with fail
        have FN := BK.out.bk.chg M.out (by simp)
        refine (bk_own FN (by have := G18.out.size; omega) (by simp) (fun j v xs hj => (BK.out.each j v xs hj).1)).mono ?_
        rintro e wz ⟨rfl, K⟩
        have Z := Lib.hid (K.out w (C1.out.trans G18.out) C1.out.size)
        go_wp2_with fail
        go_ret
        exact ⟨rfl, Z⟩
      · subst e2
        go_upto_region 28 with fail
        go_wp2_with fail
        have FN := BK.out.bk.chg M.out (by simp)
        refine (bk_own FN (by have := G18.out.size; omega) (by simp) (fun j v xs hj => (BK.out.each j v xs hj).1)).mono ?_
        rintro e wz ⟨rfl, K⟩
        have Z := Lib.hid (K.out w (C1.out.trans G18.out) C1.out.size)
        go_wp2_with fail
        go_ret
        exact ⟨rfl, Z⟩
    · subst e1
      go_upto_region 24 with fail
      rcases Ek with e2 | e2
      · subst e2
        go_wp2_with fail
        refine (Dk.out (by trivial) vd w20 (sd.out _ H13.out) cd.out).mono ?_
        rintro e w21 ⟨rfl, C⟩
        replace M := Lib.hid (M.out.trans C.out)
        replace H13 := Lib.hid (H13.out.trans C.out)
        replace G18 := Lib.hid (G18.out.trans C.out)
        clear C Dk
        go_upto_region 26 with fail
        refine wp_named2 (fun w22 hw => ?_)
        have C : Hid (Chg [] w21 w22) := by show Chg _ _ _; rw [hw]; exact (Chg.refl _ _).alloc _
        have XB : Hid (Blk w22 w21.heap.size 29 [.int .u64 (k.ep : Int), .int .u64 (k.sq : Int), .int .i64 k.tl]) := by show Blk _ _ _ _; rw [hw]; exact Blk.made w21 [.int .u64 (k.ep : Int), .int .u64 (k.sq : Int), .int .i64 k.tl] _
        replace M := Lib.hid (M.out.trans C.out)
        replace H13 := Lib.hid (H13.out.trans C.out)
        replace G18 := Lib.hid (G18.out.trans C.out)
        clear C hw
        have x0 := XB.out.cell (j := 0) rfl
        have q0 := (Bk.out _ G18.out).cell (j := 0) rfl
        have x1 := XB.out.cell (j := 1) rfl
        have q1 := (Bk.out _ G18.out).cell (j := 1) rfl
        have x2 := XB.out.cell (j := 2) rfl
        have q2 := (Bk.out _ G18.out).cell (j := 2) rfl
        have nq := Qk.out w22
        go_upto_region 28 with fail
        clear nq XB Qk x0 q0 x1 q1 x2 q2
        go_wp2_with fail
        have FN := BK.out.bk.chg M.out (by simp)
        refine (bk_own FN (by have := G18.out.size; omega) (by simp) (fun j v xs hj => (BK.out.each j v xs hj).1)).mono ?_
        rintro e wz ⟨rfl, K⟩
        have Z := Lib.hid (K.out w (C1.out.trans G18.out) C1.out.size)
        go_wp2_with fail
        go_ret
        exact ⟨rfl, Z⟩
      · subst e2
        go_upto_region 28 with fail
        go_wp2_with fail
        have FN := BK.out.bk.chg M.out (by simp)
        refine (bk_own FN (by have := G18.out.size; omega) (by simp) (fun j v xs hj => (BK.out.each j v xs hj).1)).mono ?_
        rintro e wz ⟨rfl, K⟩
        have Z := Lib.hid (K.out w (C1.out.trans G18.out) C1.out.size)
        go_wp2_with fail
        go_ret
        exact ⟨rfl, Z⟩
  · subst e0
    go_upto_region 20 with fail
    rcases Ec with e1 | e1
    · subst e1
      go_wp2_with fail
      refine (Dc.out (by trivial) vb w18 (sb.out _ H13.out) cb.out).mono ?_
      rintro e w19 ⟨rfl, C⟩
      replace M := Lib.hid (M.out.trans C.out)
      replace H13 := Lib.hid (H13.out.trans C.out)
      replace G18 := Lib.hid (G18.out.trans C.out)
      clear C Dc
      go_upto_region 22 with fail
      refine wp_named2 (fun w20 hw => ?_)
      have C : Hid (Chg [] w19 w20) := by show Chg _ _ _; rw [hw]; exact (Chg.refl _ _).alloc _
      have XB : Hid (Blk w20 w19.heap.size 27 [.int .u64 (c.ep : Int), .int .u64 (c.sq : Int), .int .i64 c.ct, .int .u32 (c.sm : Int)]) := by show Blk _ _ _ _; rw [hw]; exact Blk.made w19 [.int .u64 (c.ep : Int), .int .u64 (c.sq : Int), .int .i64 c.ct, .int .u32 (c.sm : Int)] _
      replace M := Lib.hid (M.out.trans C.out)
      replace H13 := Lib.hid (H13.out.trans C.out)
      replace G18 := Lib.hid (G18.out.trans C.out)
      clear C hw
      have x0 := XB.out.cell (j := 0) rfl
      have q0 := (Bc.out _ G18.out).cell (j := 0) rfl
      have x1 := XB.out.cell (j := 1) rfl
      have q1 := (Bc.out _ G18.out).cell (j := 1) rfl
      have x2 := XB.out.cell (j := 2) rfl
      have q2 := (Bc.out _ G18.out).cell (j := 2) rfl
      have x3 := XB.out.cell (j := 3) rfl
      have q3 := (Bc.out _ G18.out).cell (j := 3) rfl
      have nq := Qc.out w20
      go_upto_region 24 with fail
      clear nq XB Qc x0 q0 x1 q1 x2 q2 x3 q3
      rcases Ek with e2 | e2
      · subst e2
        go_wp2_with fail
        refine (Dk.out (by trivial) vd w20 (sd.out _ H13.out) cd.out).mono ?_
        rintro e w21 ⟨rfl, C⟩
        replace M := Lib.hid (M.out.trans C.out)
        replace H13 := Lib.hid (H13.out.trans C.out)
        replace G18 := Lib.hid (G18.out.trans C.out)
        clear C Dk
        go_upto_region 26 with fail
        refine wp_named2 (fun w22 hw => ?_)
        have C : Hid (Chg [] w21 w22) := by show Chg _ _ _; rw [hw]; exact (Chg.refl _ _).alloc _
        have XB : Hid (Blk w22 w21.heap.size 29 [.int .u64 (k.ep : Int), .int .u64 (k.sq : Int), .int .i64 k.tl]) := by show Blk _ _ _ _; rw [hw]; exact Blk.made w21 [.int .u64 (k.ep : Int), .int .u64 (k.sq : Int), .int .i64 k.tl] _
        replace M := Lib.hid (M.out.trans C.out)
        replace H13 := Lib.hid (H13.out.trans C.out)
        replace G18 := Lib.hid (G18.out.trans C.out)
        clear C hw
        have x0 := XB.out.cell (j := 0) rfl
        have q0 := (Bk.out _ G18.out).cell (j := 0) rfl
        have x1 := XB.out.cell (j := 1) rfl
        have q1 := (Bk.out _ G18.out).cell (j := 1) rfl
        have x2 := XB.out.cell (j := 2) rfl
        have q2 := (Bk.out _ G18.out).cell (j := 2) rfl
        have nq := Qk.out w22
        go_upto_region 28 with fail
        clear nq XB Qk x0 q0 x1 q1 x2 q2
        go_wp2_with fail
        have FN := BK.out.bk.chg M.out (by simp)
        refine (bk_own FN (by have := G18.out.size; omega) (by simp) (fun j v xs hj => (BK.out.each j v xs hj).1)).mono ?_
        rintro e wz ⟨rfl, K⟩
        have Z := Lib.hid (K.out w (C1.out.trans G18.out) C1.out.size)
        go_wp2_with fail
        go_ret
        exact ⟨rfl, Z⟩
      · subst e2
        go_upto_region 28 with fail
        go_wp2_with fail
        have FN := BK.out.bk.chg M.out (by simp)
        refine (bk_own FN (by have := G18.out.size; omega) (by simp) (fun j v xs hj => (BK.out.each j v xs hj).1)).mono ?_
        rintro e wz ⟨rfl, K⟩
        have Z := Lib.hid (K.out w (C1.out.trans G18.out) C1.out.size)
        go_wp2_with fail
        go_ret
        exact ⟨rfl, Z⟩
    · subst e1
      go_upto_region 24 with fail
      rcases Ek with e2 | e2
      · subst e2
        go_wp2_with fail
        refine (Dk.out (by trivial) vd w18 (sd.out _ H13.out) cd.out).mono ?_
        rintro e w19 ⟨rfl, C⟩
        replace M := Lib.hid (M.out.trans C.out)
        replace H13 := Lib.hid (H13.out.trans C.out)
        replace G18 := Lib.hid (G18.out.trans C.out)
        clear C Dk
        go_upto_region 26 with fail
        refine wp_named2 (fun w20 hw => ?_)
        have C : Hid (Chg [] w19 w20) := by show Chg _ _ _; rw [hw]; exact (Chg.refl _ _).alloc _
        have XB : Hid (Blk w20 w19.heap.size 29 [.int .u64 (k.ep : Int), .int .u64 (k.sq : Int), .int .i64 k.tl]) := by show Blk _ _ _ _; rw [hw]; exact Blk.made w19 [.int .u64 (k.ep : Int), .int .u64 (k.sq : Int), .int .i64 k.tl] _
        replace M := Lib.hid (M.out.trans C.out)
        replace H13 := Lib.hid (H13.out.trans C.out)
        replace G18 := Lib.hid (G18.out.trans C.out)
        clear C hw
        have x0 := XB.out.cell (j := 0) rfl
        have q0 := (Bk.out _ G18.out).cell (j := 0) rfl
        have x1 := XB.out.cell (j := 1) rfl
        have q1 := (Bk.out _ G18.out).cell (j := 1) rfl
        have x2 := XB.out.cell (j := 2) rfl
        have q2 := (Bk.out _ G18.out).cell (j := 2) rfl
        have nq := Qk.out w20
        go_upto_region 28 with fail
        clear nq XB Qk x0 q0 x1 q1 x2 q2
        go_wp2_with fail
        have FN := BK.out.bk.chg M.out (by simp)
        refine (bk_own FN (by have := G18.out.size; omega) (by simp) (fun j v xs hj => (BK.out.each j v xs hj).1)).mono ?_
        rintro e wz ⟨rfl, K⟩
        have Z := Lib.hid (K.out w (C1.out.trans G18.out) C1.out.size)
        go_wp2_with fail
        go_ret
        exact ⟨rfl, Z⟩
      · subst e2
        go_upto_region 28 with fail
        go_wp2_with fail
        have FN := BK.out.bk.chg M.out (by simp)
        refine (bk_own FN (by have := G18.out.size; omega) (by simp) (fun j v xs hj => (BK.out.each j v xs hj).1)).mono ?_
        rintro e wz ⟨rfl, K⟩
        have Z := Lib.hid (K.out w (C1.out.trans G18.out) C1.out.size)
        go_wp2_with fail
        go_ret
        exact ⟨rfl, Z⟩

theorem recordWrites_walk (h : Hd) (c : Cm) (k : Ck) (w : World) (fh : h.Fit) (fc : c.Fit) (fk : k.Fit) :
    Calls Try.prog 3 #[h.val, c.val, k.val] w fun e w' => e = .returned (.bool true) ∧ Chg [] w w' :=
  (recordWrites_core h c k w fh fc fk).mono fun _ _ h => ⟨h.1, h.2.out⟩

end Go.Proofs.Ytnjemjkjbeingaa