/-
  A sector in which a run of at most 32 bits has changed is refused. By an AI agent. Printed by gen_rclawt.py.
-/
import Derived.Test.YtnjemjkjbeingaaRcTri
import Derived.Test.YtnjemjkjbeingaaRcTurn
namespace Go.Proofs.Ytnjemjkjbeingaa
open Go.RowKit Crc

theorem turn_enc (v : Value) (a : List Nat) (f ch : Nat) (w : World) (h : Sl w v (ints a)) (hbs : Bs a) (hl : a = [] ∨ a.length = 128) (hf : f < 1024) (hch : ch < 4294967296) :
    Calls Try.prog 34 #[v, .int .i64 f, .int .u32 (ch : Int)] w (TurnOf w a) := by
  rcases hl with rfl | hl
  · exact turn_nil v f ch w h hf hch
  · exact turn_any v a f ch w h hbs hl hf hch

/-- Of a valid one's sector: what is read well is what it was. -/
theorem Hd.told (h : Hd) (f : h.Fit) (e : h.err = 0) (bs : List Nat) (hb : reg ones bs = thr 32 ones → reg ones h.enc = thr 32 ones → bs = h.enc) : (Hd.derr bs == 0) = decide (h.enc = bs) := by
  rcases h.err_in with ⟨_, e2, ok⟩ | ⟨e1, _⟩
  · by_cases hs : h.enc = bs
    · rw [decide_eq_true hs, ← hs, e2, (Hd.back h ok f.sm).1]
      rfl
    · rw [decide_eq_false hs]
      refine beq_eq_false_iff_ne.2 (fun k => hs (hb (Hd.good k) ?_).symm)
      rw [e2]
      exact Rec.sector_sealed _
  · rw [e1] at e; cases e

/-- Of a valid one's sector: what is read well is what it was. -/
theorem Cm.told (h : Cm) (f : h.Fit) (e : h.err = 0) (bs : List Nat) (hb : reg ones bs = thr 32 ones → reg ones h.enc = thr 32 ones → bs = h.enc) : (Cm.derr bs == 0) = decide (h.enc = bs) := by
  rcases h.err_in with ⟨_, e2, ok⟩ | ⟨e1, _⟩
  · by_cases hs : h.enc = bs
    · rw [decide_eq_true hs, ← hs, e2, (Cm.back h ok f.sm).1]
      rfl
    · rw [decide_eq_false hs]
      refine beq_eq_false_iff_ne.2 (fun k => hs (hb (Cm.good k) ?_).symm)
      rw [e2]
      exact Rec.sector_sealed _
  · rw [e1] at e; cases e

/-- Of a valid one's sector: what is read well is what it was. -/
theorem Ck.told (h : Ck) (e : h.err = 0) (bs : List Nat) (hb : reg ones bs = thr 32 ones → reg ones h.enc = thr 32 ones → bs = h.enc) : (Ck.derr bs == 0) = decide (h.enc = bs) := by
  rcases h.err_in with ⟨_, e2, ok⟩ | ⟨e1, _⟩
  · by_cases hs : h.enc = bs
    · rw [decide_eq_true hs, ← hs, e2, (Ck.back h ok).1]
      rfl
    · rw [decide_eq_false hs]
      refine beq_eq_false_iff_ne.2 (fun k => hs (hb (Ck.good k) ?_).symm)
      rw [e2]
      exact Rec.sector_sealed _
  · rw [e1] at e; cases e

set_option maxHeartbeats 16000000 in
set_option maxRecDepth 100000 in
theorem recordTurned_core (h : Hd) (c : Cm) (k : Ck) (at_ r : Int) (f ch : Nat) (w : World) (fh : h.Fit) (fc : c.Fit) (fk : k.Fit) (hr : Int.tmod at_ 1024 = r) (hf : (if r < 0 then r + 1024 else r) = (f : Int)) (hfl : f < 1024) (hch : ch < 4294967296) (hr1 : -1024 < r) (hr2 : r < 1024) :
    Calls Try.prog 6 #[h.val, c.val, k.val, .int .i64 at_, .int .u32 (ch : Int)] w fun e w' => e = .returned (.bool true) ∧ Hid (Chg [] w w') := by
  have KN := Lib.hid known_any
  have Ph := Lib.hid (fun W => encHd_any h W fh.ep fh.sq fh.sm)
  have Th := Lib.hid (fun v W (s : Sl W v (ints h.enc)) => turn_enc v h.enc f ch W s h.enc_bs (h.err_in.elim (fun m => .inr (by rw [m.2.1, h.sec_len])) (fun m => .inl m.2.1)) hfl hch)
  have Lh := h.enc_len
  have Eh : h.err = 0 ∨ h.err = 80 := h.err_in.elim (fun m => .inl m.1) (fun m => .inr m.1)
  have Sh := Lib.hid (fun W u v bs (k1 : Sl W u (ints h.enc)) (k2 : Sl W v (ints bs)) (hl : bs.length = h.enc.length) => sameB_any u v h.enc bs W k1 k2 (by omega) (by omega))
  have Qh := Lib.hid (Hd.told h fh)
  have Dh := Lib.hid (fun v bs W (s : Sl W v (ints bs)) (hb : Bs bs) hc => decHd_any v bs W s hb hc)
  have Pc := Lib.hid (fun W => encCm_any c W fc.ep fc.sq fc.sm)
  have Tc := Lib.hid (fun v W (s : Sl W v (ints c.enc)) => turn_enc v c.enc f ch W s c.enc_bs (c.err_in.elim (fun m => .inr (by rw [m.2.1, c.sec_len])) (fun m => .inl m.2.1)) hfl hch)
  have Lc := c.enc_len
  have Ec : c.err = 0 ∨ c.err = 80 := c.err_in.elim (fun m => .inl m.1) (fun m => .inr m.1)
  have Sc := Lib.hid (fun W u v bs (k1 : Sl W u (ints c.enc)) (k2 : Sl W v (ints bs)) (hl : bs.length = c.enc.length) => sameB_any u v c.enc bs W k1 k2 (by omega) (by omega))
  have Qc := Lib.hid (Cm.told c fc)
  have Dc := Lib.hid (fun v bs W (s : Sl W v (ints bs)) (hb : Bs bs) hc => decCm_any v bs W s hb hc)
  have Pk := Lib.hid (fun W => encCk_any k W fk.ep fk.sq)
  have Tk := Lib.hid (fun v W (s : Sl W v (ints k.enc)) => turn_enc v k.enc f ch W s k.enc_bs (k.err_in.elim (fun m => .inr (by rw [m.2.1, k.sec_len])) (fun m => .inl m.2.1)) hfl hch)
  have Lk := k.enc_len
  have Ek : k.err = 0 ∨ k.err = 80 := k.err_in.elim (fun m => .inl m.1) (fun m => .inr m.1)
  have Sk := Lib.hid (fun W u v bs (k1 : Sl W u (ints k.enc)) (k2 : Sl W v (ints bs)) (hl : bs.length = k.enc.length) => sameB_any u v k.enc bs W k1 k2 (by omega) (by omega))
  have Qk := Lib.hid (Ck.told k)
  have Dk := Lib.hid (fun v bs W (s : Sl W v (ints bs)) (hb : Bs bs) hc => decCk_any v bs W s hb hc)
  unfold PcEncs at Ph Pc Pk
  unfold Hd.val at Ph
  unfold Cm.val at Pc
  unfold Ck.val at Pk
  unfold TurnOf at Th Tc Tk
  unfold Hd.val Cm.val Ck.val
  generalize h.enc = eh at *
  generalize h.err = rh at *
  generalize c.enc = ec at *
  generalize c.err = rc at *
  generalize k.enc = ek at *
  generalize k.err = rk at *
  clear fh fc fk
  have hf0 : (0 : Int) ≤ f := Int.natCast_nonneg _
  by_cases hneg : r < 0
  · rw [if_pos hneg] at hf
    go_enter Try.func6, Try.ntmps6
    go_upto_region 1 with fail
    refine wp_named2 (fun W1 hW1 => ?_)
    obtain ⟨BH, BC, BKk, C1⟩ := rc_three_blocks w [.int .u64 (h.ep : Int), .int .u64 (h.sq : Int), .int .i64 h.ix, .int .i64 h.ct, .int .i64 h.mb, .int .i64 h.rw', .bool h.esc, .int .u32 (h.sm : Int)] [.int .u64 (c.ep : Int), .int .u64 (c.sq : Int), .int .i64 c.ct, .int .u32 (c.sm : Int)] [.int .u64 (k.ep : Int), .int .u64 (k.sq : Int), .int .i64 k.tl] 25 27 29 hW1
    have Bh : Hid (∀ W, Chg [] W1 W → Blk W (w.heap.size) 25 [.int .u64 (h.ep : Int), .int .u64 (h.sq : Int), .int .i64 h.ix, .int .i64 h.ct, .int .i64 h.mb, .int .i64 h.rw', .bool h.esc, .int .u32 (h.sm : Int)]) := fun W d => BH.chg d (by simp)
    have Bc : Hid (∀ W, Chg [] W1 W → Blk W (w.heap.size + 1) 27 [.int .u64 (c.ep : Int), .int .u64 (c.sq : Int), .int .i64 c.ct, .int .u32 (c.sm : Int)]) := fun W d => BC.chg d (by simp)
    have Bk : Hid (∀ W, Chg [] W1 W → Blk W (w.heap.size + 1 + 1) 29 [.int .u64 (k.ep : Int), .int .u64 (k.sq : Int), .int .i64 k.tl]) := fun W d => BKk.chg d (by simp)
    replace C1 := Lib.hid C1
    clear hW1 BH BC BKk
    have G : Hid (Chg [] W1 W1) := Chg.refl _ _
    have q0 := (Bh.out _ G.out).cell (j := 0) rfl
    have q1 := (Bh.out _ G.out).cell (j := 1) rfl
    have q2 := (Bh.out _ G.out).cell (j := 2) rfl
    have q3 := (Bh.out _ G.out).cell (j := 3) rfl
    have q4 := (Bh.out _ G.out).cell (j := 4) rfl
    have q5 := (Bh.out _ G.out).cell (j := 5) rfl
    have q6 := (Bh.out _ G.out).cell (j := 6) rfl
    have q7 := (Bh.out _ G.out).cell (j := 7) rfl
    go_wp2_with fail
    refine (Ph.out W1).mono ?_
    rintro e w2 ⟨va, rfl, Oa, C⟩
    replace G := Lib.hid (G.out.trans C.out)
    have sa : Hid (∀ W, Chg [] w2 W → Sl W va (ints eh)) := fun W d => Sl.owned (owns_chg Oa.out d (by simp))
    clear C Oa q0 q1 q2 q3 q4 q5 q6 q7
    have q0 := (Bc.out _ G.out).cell (j := 0) rfl
    have q1 := (Bc.out _ G.out).cell (j := 1) rfl
    have q2 := (Bc.out _ G.out).cell (j := 2) rfl
    have q3 := (Bc.out _ G.out).cell (j := 3) rfl
    go_wp2_with fail
    refine (Pc.out w2).mono ?_
    rintro e w3 ⟨vb, rfl, Ob, C⟩
    replace G := Lib.hid (G.out.trans C.out)
    replace sa : Hid (∀ W, Chg [] w3 W → Sl W va (ints eh)) := fun W d => sa.out W (C.out.trans d)
    have sb : Hid (∀ W, Chg [] w3 W → Sl W vb (ints ec)) := fun W d => Sl.owned (owns_chg Ob.out d (by simp))
    clear C Ob q0 q1 q2 q3
    have q0 := (Bk.out _ G.out).cell (j := 0) rfl
    have q1 := (Bk.out _ G.out).cell (j := 1) rfl
    have q2 := (Bk.out _ G.out).cell (j := 2) rfl
    go_wp2_with fail
    refine (Pk.out w3).mono ?_
    rintro e w4 ⟨vd, rfl, Od, C⟩
    replace G := Lib.hid (G.out.trans C.out)
    replace sa : Hid (∀ W, Chg [] w4 W → Sl W va (ints eh)) := fun W d => sa.out W (C.out.trans d)
    replace sb : Hid (∀ W, Chg [] w4 W → Sl W vb (ints ec)) := fun W d => sb.out W (C.out.trans d)
    have sd : Hid (∀ W, Chg [] w4 W → Sl W vd (ints ek)) := fun W d => Sl.owned (owns_chg Od.out d (by simp))
    clear C Od q0 q1 q2
    clear Ph Pc Pk Bh Bc Bk
    have M : Hid (Chg [] w4 w4) := Chg.refl _ _
    go_wp2_with fail
    refine (Th.out va w4 (sa.out _ M.out)).mono ?_
    rintro e w5 ⟨x, mx, rfl, O, C, lx, hbx, tlx⟩
    replace M := Lib.hid (M.out.trans C.out)
    replace G := Lib.hid (G.out.trans C.out)
    have sx : Hid (∀ W, Chg [] w5 W → Sl W x (ints mx)) := fun W d => Sl.owned (owns_chg O.out d (by simp))
    have cx : Hid (∀ ao n c, x = .slice ao n c → n ≤ c) := own_caps2 O.out
    clear O C Th
    go_wp2_with fail
    refine (Tc.out vb w5 (sb.out _ M.out)).mono ?_
    rintro e w6 ⟨y, my, rfl, O, C, ly, hby, tly⟩
    replace M := Lib.hid (M.out.trans C.out)
    replace G := Lib.hid (G.out.trans C.out)
    replace sx : Hid (∀ W, Chg [] w6 W → Sl W x (ints mx)) := fun W d => sx.out W (C.out.trans d)
    have sy : Hid (∀ W, Chg [] w6 W → Sl W y (ints my)) := fun W d => Sl.owned (owns_chg O.out d (by simp))
    have cy : Hid (∀ ao n c, y = .slice ao n c → n ≤ c) := own_caps2 O.out
    clear O C Tc
    go_wp2_with fail
    refine (Tk.out vd w6 (sd.out _ M.out)).mono ?_
    rintro e w7 ⟨z, mz, rfl, O, C, lz, hbz, tlz⟩
    replace M := Lib.hid (M.out.trans C.out)
    replace G := Lib.hid (G.out.trans C.out)
    replace sx : Hid (∀ W, Chg [] w7 W → Sl W x (ints mx)) := fun W d => sx.out W (C.out.trans d)
    replace sy : Hid (∀ W, Chg [] w7 W → Sl W y (ints my)) := fun W d => sy.out W (C.out.trans d)
    have sz : Hid (∀ W, Chg [] w7 W → Sl W z (ints mz)) := fun W d => Sl.owned (owns_chg O.out d (by simp))
    have cz : Hid (∀ ao n c, z = .slice ao n c → n ≤ c) := own_caps2 O.out
    clear O C Tk
    have N : Hid (Chg [] w7 w7) := Chg.refl _ _
    go_wp2_with fail
    refine (Dh.out x mx w7 (sx.out _ N.out) hbx.out cx.out).mono ?_
    rintro e w8 ⟨rfl, C⟩
    replace M := Lib.hid (M.out.trans C.out)
    replace G := Lib.hid (G.out.trans C.out)
    replace N := Lib.hid (N.out.trans C.out)
    clear C Dh
    have hqh := Lib.hid (fun e => Qh.out e mx tlx.out)
    have hih := Hd.derr_in mx
    unfold Hd.val
    generalize Hd.dval mx = dvh at *
    generalize Hd.derr mx = deh at *
    go_upto_region 11 with fail
    refine wp_named2 (fun w9 hw => ?_)
    have C : Hid (Chg [] w8 w9) := by show Chg _ _ _; rw [hw]; exact (Chg.refl _ _).alloc _
    replace M := Lib.hid (M.out.trans C.out)
    replace G := Lib.hid (G.out.trans C.out)
    replace N := Lib.hid (N.out.trans C.out)
    clear C hw Qh tlx hbx cx
    go_wp2_with fail
    refine (Dc.out y my w9 (sy.out _ N.out) hby.out cy.out).mono ?_
    rintro e w10 ⟨rfl, C⟩
    replace M := Lib.hid (M.out.trans C.out)
    replace G := Lib.hid (G.out.trans C.out)
    replace N := Lib.hid (N.out.trans C.out)
    clear C Dc
    have hqc := Lib.hid (fun e => Qc.out e my tly.out)
    have hic := Cm.derr_in my
    unfold Cm.val
    generalize Cm.dval my = dvc at *
    generalize Cm.derr my = dec at *
    go_upto_region 12 with fail
    refine wp_named2 (fun w11 hw => ?_)
    have C : Hid (Chg [] w10 w11) := by show Chg _ _ _; rw [hw]; exact (Chg.refl _ _).alloc _
    replace M := Lib.hid (M.out.trans C.out)
    replace G := Lib.hid (G.out.trans C.out)
    replace N := Lib.hid (N.out.trans C.out)
    clear C hw Qc tly hby cy
    go_wp2_with fail
    refine (Dk.out z mz w11 (sz.out _ N.out) hbz.out cz.out).mono ?_
    rintro e w12 ⟨rfl, C⟩
    replace M := Lib.hid (M.out.trans C.out)
    replace G := Lib.hid (G.out.trans C.out)
    replace N := Lib.hid (N.out.trans C.out)
    clear C Dk
    have hqk := Lib.hid (fun e => Qk.out e mz tlz.out)
    have hik := Ck.derr_in mz
    unfold Ck.val
    generalize Ck.dval mz = dvk at *
    generalize Ck.derr mz = dek at *
    go_upto_region 13 with fail
    refine wp_named2 (fun w13 hw => ?_)
    have C : Hid (Chg [] w12 w13) := by show Chg _ _ _; rw [hw]; exact (Chg.refl _ _).alloc _
    replace M := Lib.hid (M.out.trans C.out)
    replace G := Lib.hid (G.out.trans C.out)
    replace N := Lib.hid (N.out.trans C.out)
    clear C hw Qk tlz hbz cz
    rcases Eh with ee | ee
    · subst ee
      have hz := hqh.out (by trivial)
      have SS := Lib.hid (Sh.out w13 va x mx (sa.out _ M.out) (sx.out _ N.out) lx)
      generalize decide (eh = mx) = rr at *
      go_wp2_with fail
      refine SS.out.mono ?_
      rintro e w14 ⟨rfl, C⟩
      replace M := Lib.hid (M.out.trans C.out)
      replace G := Lib.hid (G.out.trans C.out)
      replace N := Lib.hid (N.out.trans C.out)
      clear C SS
      go_upto_region 14 with fail
      clear hz
      rcases Ec with ee | ee
      · subst ee
        have hz := hqc.out (by trivial)
        have SS := Lib.hid (Sc.out w14 vb y my (sb.out _ M.out) (sy.out _ N.out) ly)
        generalize decide (ec = my) = rr at *
        go_wp2_with fail
        refine SS.out.mono ?_
        rintro e w15 ⟨rfl, C⟩
        replace M := Lib.hid (M.out.trans C.out)
        replace G := Lib.hid (G.out.trans C.out)
        replace N := Lib.hid (N.out.trans C.out)
        clear C SS
        go_upto_region 15 with fail
        clear hz
        rcases Ek with ee | ee
        · subst ee
          have hz := hqk.out (by trivial)
          have SS := Lib.hid (Sk.out w15 vd z mz (sd.out _ M.out) (sz.out _ N.out) lz)
          generalize decide (ek = mz) = rr at *
          go_wp2_with fail
          refine SS.out.mono ?_
          rintro e w16 ⟨rfl, C⟩
          replace M := Lib.hid (M.out.trans C.out)
          replace G := Lib.hid (G.out.trans C.out)
          replace N := Lib.hid (N.out.trans C.out)
          clear C SS
          go_upto_region 16 with fail
          clear hz
          go_wp2_with fail
          refine (KN.out _).mono ?_
          rintro e wz ⟨rfl, C⟩
          have Z := Lib.hid (C1.out.trans (G.out.trans C.out))
          go_wp2_with fail
          go_ret
          exact ⟨by first | rfl | simp, Z⟩
        · subst ee
          go_upto_region 16 with fail
          go_wp2_with fail
          refine (KN.out _).mono ?_
          rintro e wz ⟨rfl, C⟩
          have Z := Lib.hid (C1.out.trans (G.out.trans C.out))
          go_wp2_with fail
          go_ret
          exact ⟨by first | rfl | simp, Z⟩
      · subst ee
        go_upto_region 15 with fail
        rcases Ek with ee | ee
        · subst ee
          have hz := hqk.out (by trivial)
          have SS := Lib.hid (Sk.out w14 vd z mz (sd.out _ M.out) (sz.out _ N.out) lz)
          generalize decide (ek = mz) = rr at *
          go_wp2_with fail
          refine SS.out.mono ?_
          rintro e w15 ⟨rfl, C⟩
          replace M := Lib.hid (M.out.trans C.out)
          replace G := Lib.hid (G.out.trans C.out)
          replace N := Lib.hid (N.out.trans C.out)
          clear C SS
          go_upto_region 16 with fail
          clear hz
          go_wp2_with fail
          refine (KN.out _).mono ?_
          rintro e wz ⟨rfl, C⟩
          have Z := Lib.hid (C1.out.trans (G.out.trans C.out))
          go_wp2_with fail
          go_ret
          exact ⟨by first | rfl | simp, Z⟩
        · subst ee
          go_upto_region 16 with fail
          go_wp2_with fail
          refine (KN.out _).mono ?_
          rintro e wz ⟨rfl, C⟩
          have Z := Lib.hid (C1.out.trans (G.out.trans C.out))
          go_wp2_with fail
          go_ret
          exact ⟨by first | rfl | simp, Z⟩
    · subst ee
      go_upto_region 14 with fail
      rcases Ec with ee | ee
      · subst ee
        have hz := hqc.out (by trivial)
        have SS := Lib.hid (Sc.out w13 vb y my (sb.out _ M.out) (sy.out _ N.out) ly)
        generalize decide (ec = my) = rr at *
        go_wp2_with fail
        refine SS.out.mono ?_
        rintro e w14 ⟨rfl, C⟩
        replace M := Lib.hid (M.out.trans C.out)
        replace G := Lib.hid (G.out.trans C.out)
        replace N := Lib.hid (N.out.trans C.out)
        clear C SS
        go_upto_region 15 with fail
        clear hz
        rcases Ek with ee | ee
        · subst ee
          have hz := hqk.out (by trivial)
          have SS := Lib.hid (Sk.out w14 vd z mz (sd.out _ M.out) (sz.out _ N.out) lz)
          generalize decide (ek = mz) = rr at *
          go_wp2_with fail
          refine SS.out.mono ?_
          rintro e w15 ⟨rfl, C⟩
          replace M := Lib.hid (M.out.trans C.out)
          replace G := Lib.hid (G.out.trans C.out)
          replace N := Lib.hid (N.out.trans C.out)
          clear C SS
          go_upto_region 16 with fail
          clear hz
          go_wp2_with fail
          refine (KN.out _).mono ?_
          rintro e wz ⟨rfl, C⟩
          have Z := Lib.hid (C1.out.trans (G.out.trans C.out))
          go_wp2_with fail
          go_ret
          exact ⟨by first | rfl | simp, Z⟩
        · subst ee
          go_upto_region 16 with fail
          go_wp2_with fail
          refine (KN.out _).mono ?_
          rintro e wz ⟨rfl, C⟩
          have Z := Lib.hid (C1.out.trans (G.out.trans C.out))
          go_wp2_with fail
          go_ret
          exact ⟨by first | rfl | simp, Z⟩
      · subst ee
        go_upto_region 15 with fail
        rcases Ek with ee | ee
        · subst ee
          have hz := hqk.out (by trivial)
          have SS := Lib.hid (Sk.out w13 vd z mz (sd.out _ M.out) (sz.out _ N.out) lz)
          generalize decide (ek = mz) = rr at *
          go_wp2_with fail
          refine SS.out.mono ?_
          rintro e w14 ⟨rfl, C⟩
          replace M := Lib.hid (M.out.trans C.out)
          replace G := Lib.hid (G.out.trans C.out)
          replace N := Lib.hid (N.out.trans C.out)
          clear C SS
          go_upto_region 16 with fail
          clear hz
          go_wp2_with fail
          refine (KN.out _).mono ?_
          rintro e wz ⟨rfl, C⟩
          have Z := Lib.hid (C1.out.trans (G.out.trans C.out))
          go_wp2_with fail
          go_ret
          exact ⟨by first | rfl | simp, Z⟩
        · subst ee
          go_upto_region 16 with fail
          go_wp2_with fail
          refine (KN.out _).mono ?_
          rintro e wz ⟨rfl, C⟩
          have Z := Lib.hid (C1.out.trans (G.out.trans C.out))
          go_wp2_with fail
          go_ret
          exact ⟨by first | rfl | simp, Z⟩
  · rw [if_neg hneg] at hf
    subst hf
    go_enter Try.func6, Try.ntmps6
    go_upto_region 1 with fail
    refine wp_named2 (fun W1 hW1 => ?_)
    obtain ⟨BH, BC, BKk, C1⟩ := rc_three_blocks w [.int .u64 (h.ep : Int), .int .u64 (h.sq : Int), .int .i64 h.ix, .int .i64 h.ct, .int .i64 h.mb, .int .i64 h.rw', .bool h.esc, .int .u32 (h.sm : Int)] [.int .u64 (c.ep : Int), .int .u64 (c.sq : Int), .int .i64 c.ct, .int .u32 (c.sm : Int)] [.int .u64 (k.ep : Int), .int .u64 (k.sq : Int), .int .i64 k.tl] 25 27 29 hW1
    have Bh : Hid (∀ W, Chg [] W1 W → Blk W (w.heap.size) 25 [.int .u64 (h.ep : Int), .int .u64 (h.sq : Int), .int .i64 h.ix, .int .i64 h.ct, .int .i64 h.mb, .int .i64 h.rw', .bool h.esc, .int .u32 (h.sm : Int)]) := fun W d => BH.chg d (by simp)
    have Bc : Hid (∀ W, Chg [] W1 W → Blk W (w.heap.size + 1) 27 [.int .u64 (c.ep : Int), .int .u64 (c.sq : Int), .int .i64 c.ct, .int .u32 (c.sm : Int)]) := fun W d => BC.chg d (by simp)
    have Bk : Hid (∀ W, Chg [] W1 W → Blk W (w.heap.size + 1 + 1) 29 [.int .u64 (k.ep : Int), .int .u64 (k.sq : Int), .int .i64 k.tl]) := fun W d => BKk.chg d (by simp)
    replace C1 := Lib.hid C1
    clear hW1 BH BC BKk
    have G : Hid (Chg [] W1 W1) := Chg.refl _ _
    have q0 := (Bh.out _ G.out).cell (j := 0) rfl
    have q1 := (Bh.out _ G.out).cell (j := 1) rfl
    have q2 := (Bh.out _ G.out).cell (j := 2) rfl
    have q3 := (Bh.out _ G.out).cell (j := 3) rfl
    have q4 := (Bh.out _ G.out).cell (j := 4) rfl
    have q5 := (Bh.out _ G.out).cell (j := 5) rfl
    have q6 := (Bh.out _ G.out).cell (j := 6) rfl
    have q7 := (Bh.out _ G.out).cell (j := 7) rfl
    go_wp2_with fail
    refine (Ph.out W1).mono ?_
    rintro e w2 ⟨va, rfl, Oa, C⟩
    replace G := Lib.hid (G.out.trans C.out)
    have sa : Hid (∀ W, Chg [] w2 W → Sl W va (ints eh)) := fun W d => Sl.owned (owns_chg Oa.out d (by simp))
    clear C Oa q0 q1 q2 q3 q4 q5 q6 q7
    have q0 := (Bc.out _ G.out).cell (j := 0) rfl
    have q1 := (Bc.out _ G.out).cell (j := 1) rfl
    have q2 := (Bc.out _ G.out).cell (j := 2) rfl
    have q3 := (Bc.out _ G.out).cell (j := 3) rfl
    go_wp2_with fail
    refine (Pc.out w2).mono ?_
    rintro e w3 ⟨vb, rfl, Ob, C⟩
    replace G := Lib.hid (G.out.trans C.out)
    replace sa : Hid (∀ W, Chg [] w3 W → Sl W va (ints eh)) := fun W d => sa.out W (C.out.trans d)
    have sb : Hid (∀ W, Chg [] w3 W → Sl W vb (ints ec)) := fun W d => Sl.owned (owns_chg Ob.out d (by simp))
    clear C Ob q0 q1 q2 q3
    have q0 := (Bk.out _ G.out).cell (j := 0) rfl
    have q1 := (Bk.out _ G.out).cell (j := 1) rfl
    have q2 := (Bk.out _ G.out).cell (j := 2) rfl
    go_wp2_with fail
    refine (Pk.out w3).mono ?_
    rintro e w4 ⟨vd, rfl, Od, C⟩
    replace G := Lib.hid (G.out.trans C.out)
    replace sa : Hid (∀ W, Chg [] w4 W → Sl W va (ints eh)) := fun W d => sa.out W (C.out.trans d)
    replace sb : Hid (∀ W, Chg [] w4 W → Sl W vb (ints ec)) := fun W d => sb.out W (C.out.trans d)
    have sd : Hid (∀ W, Chg [] w4 W → Sl W vd (ints ek)) := fun W d => Sl.owned (owns_chg Od.out d (by simp))
    clear C Od q0 q1 q2
    clear Ph Pc Pk Bh Bc Bk
    have M : Hid (Chg [] w4 w4) := Chg.refl _ _
    go_wp2_with fail
    refine (Th.out va w4 (sa.out _ M.out)).mono ?_
    rintro e w5 ⟨x, mx, rfl, O, C, lx, hbx, tlx⟩
    replace M := Lib.hid (M.out.trans C.out)
    replace G := Lib.hid (G.out.trans C.out)
    have sx : Hid (∀ W, Chg [] w5 W → Sl W x (ints mx)) := fun W d => Sl.owned (owns_chg O.out d (by simp))
    have cx : Hid (∀ ao n c, x = .slice ao n c → n ≤ c) := own_caps2 O.out
    clear O C Th
    go_wp2_with fail
    refine (Tc.out vb w5 (sb.out _ M.out)).mono ?_
    rintro e w6 ⟨y, my, rfl, O, C, ly, hby, tly⟩
    replace M := Lib.hid (M.out.trans C.out)
    replace G := Lib.hid (G.out.trans C.out)
    replace sx : Hid (∀ W, Chg [] w6 W → Sl W x (ints mx)) := fun W d => sx.out W (C.out.trans d)
    have sy : Hid (∀ W, Chg [] w6 W → Sl W y (ints my)) := fun W d => Sl.owned (owns_chg O.out d (by simp))
    have cy : Hid (∀ ao n c, y = .slice ao n c → n ≤ c) := own_caps2 O.out
    clear O C Tc
    go_wp2_with fail
    refine (Tk.out vd w6 (sd.out _ M.out)).mono ?_
    rintro e w7 ⟨z, mz, rfl, O, C, lz, hbz, tlz⟩
    replace M := Lib.hid (M.out.trans C.out)
    replace G := Lib.hid (G.out.trans C.out)
    replace sx : Hid (∀ W, Chg [] w7 W → Sl W x (ints mx)) := fun W d => sx.out W (C.out.trans d)
    replace sy : Hid (∀ W, Chg [] w7 W → Sl W y (ints my)) := fun W d => sy.out W (C.out.trans d)
    have sz : Hid (∀ W, Chg [] w7 W → Sl W z (ints mz)) := fun W d => Sl.owned (owns_chg O.out d (by simp))
    have cz : Hid (∀ ao n c, z = .slice ao n c → n ≤ c) := own_caps2 O.out
    clear O C Tk
    have N : Hid (Chg [] w7 w7) := Chg.refl _ _
    go_wp2_with fail
    refine (Dh.out x mx w7 (sx.out _ N.out) hbx.out cx.out).mono ?_
    rintro e w8 ⟨rfl, C⟩
    replace M := Lib.hid (M.out.trans C.out)
    replace G := Lib.hid (G.out.trans C.out)
    replace N := Lib.hid (N.out.trans C.out)
    clear C Dh
    have hqh := Lib.hid (fun e => Qh.out e mx tlx.out)
    have hih := Hd.derr_in mx
    unfold Hd.val
    generalize Hd.dval mx = dvh at *
    generalize Hd.derr mx = deh at *
    go_upto_region 11 with fail
    refine wp_named2 (fun w9 hw => ?_)
    have C : Hid (Chg [] w8 w9) := by show Chg _ _ _; rw [hw]; exact (Chg.refl _ _).alloc _
    replace M := Lib.hid (M.out.trans C.out)
    replace G := Lib.hid (G.out.trans C.out)
    replace N := Lib.hid (N.out.trans C.out)
    clear C hw Qh tlx hbx cx
    go_wp2_with fail
    refine (Dc.out y my w9 (sy.out _ N.out) hby.out cy.out).mono ?_
    rintro e w10 ⟨rfl, C⟩
    replace M := Lib.hid (M.out.trans C.out)
    replace G := Lib.hid (G.out.trans C.out)
    replace N := Lib.hid (N.out.trans C.out)
    clear C Dc
    have hqc := Lib.hid (fun e => Qc.out e my tly.out)
    have hic := Cm.derr_in my
    unfold Cm.val
    generalize Cm.dval my = dvc at *
    generalize Cm.derr my = dec at *
    go_upto_region 12 with fail
    refine wp_named2 (fun w11 hw => ?_)
    have C : Hid (Chg [] w10 w11) := by show Chg _ _ _; rw [hw]; exact (Chg.refl _ _).alloc _
    replace M := Lib.hid (M.out.trans C.out)
    replace G := Lib.hid (G.out.trans C.out)
    replace N := Lib.hid (N.out.trans C.out)
    clear C hw Qc tly hby cy
    go_wp2_with fail
    refine (Dk.out z mz w11 (sz.out _ N.out) hbz.out cz.out).mono ?_
    rintro e w12 ⟨rfl, C⟩
    replace M := Lib.hid (M.out.trans C.out)
    replace G := Lib.hid (G.out.trans C.out)
    replace N := Lib.hid (N.out.trans C.out)
    clear C Dk
    have hqk := Lib.hid (fun e => Qk.out e mz tlz.out)
    have hik := Ck.derr_in mz
    unfold Ck.val
    generalize Ck.dval mz = dvk at *
    generalize Ck.derr mz = dek at *
    go_upto_region 13 with fail
    refine wp_named2 (fun w13 hw => ?_)
    have C : Hid (Chg [] w12 w13) := by show Chg _ _ _; rw [hw]; exact (Chg.refl _ _).alloc _
    replace M := Lib.hid (M.out.trans C.out)
    replace G := Lib.hid (G.out.trans C.out)
    replace N := Lib.hid (N.out.trans C.out)
    clear C hw Qk tlz hbz cz
    rcases Eh with ee | ee
    · subst ee
      have hz := hqh.out (by trivial)
      have SS := Lib.hid (Sh.out w13 va x mx (sa.out _ M.out) (sx.out _ N.out) lx)
      generalize decide (eh = mx) = rr at *
      go_wp2_with fail
      refine SS.out.mono ?_
      rintro e w14 ⟨rfl, C⟩
      replace M := Lib.hid (M.out.trans C.out)
      replace G := Lib.hid (G.out.trans C.out)
      replace N := Lib.hid (N.out.trans C.out)
      clear C SS
      go_upto_region 14 with fail
      clear hz
      rcases Ec with ee | ee
      · subst ee
        have hz := hqc.out (by trivial)
        have SS := Lib.hid (Sc.out w14 vb y my (sb.out _ M.out) (sy.out _ N.out) ly)
        generalize decide (ec = my) = rr at *
        go_wp2_with fail
        refine SS.out.mono ?_
        rintro e w15 ⟨rfl, C⟩
        replace M := Lib.hid (M.out.trans C.out)
        replace G := Lib.hid (G.out.trans C.out)
        replace N := Lib.hid (N.out.trans C.out)
        clear C SS
        go_upto_region 15 with fail
        clear hz
        rcases Ek with ee | ee
        · subst ee
          have hz := hqk.out (by trivial)
          have SS := Lib.hid (Sk.out w15 vd z mz (sd.out _ M.out) (sz.out _ N.out) lz)
          generalize decide (ek = mz) = rr at *
          go_wp2_with fail
          refine SS.out.mono ?_
          rintro e w16 ⟨rfl, C⟩
          replace M := Lib.hid (M.out.trans C.out)
          replace G := Lib.hid (G.out.trans C.out)
          replace N := Lib.hid (N.out.trans C.out)
          clear C SS
          go_upto_region 16 with fail
          clear hz
          go_wp2_with fail
          refine (KN.out _).mono ?_
          rintro e wz ⟨rfl, C⟩
          have Z := Lib.hid (C1.out.trans (G.out.trans C.out))
          go_wp2_with fail
          go_ret
          exact ⟨by first | rfl | simp, Z⟩
        · subst ee
          go_upto_region 16 with fail
          go_wp2_with fail
          refine (KN.out _).mono ?_
          rintro e wz ⟨rfl, C⟩
          have Z := Lib.hid (C1.out.trans (G.out.trans C.out))
          go_wp2_with fail
          go_ret
          exact ⟨by first | rfl | simp, Z⟩
      · subst ee
        go_upto_region 15 with fail
        rcases Ek with ee | ee
        · subst ee
          have hz := hqk.out (by trivial)
          have SS := Lib.hid (Sk.out w14 vd z mz (sd.out _ M.out) (sz.out _ N.out) lz)
          generalize decide (ek = mz) = rr at *
          go_wp2_with fail
          refine SS.out.mono ?_
          rintro e w15 ⟨rfl, C⟩
          replace M := Lib.hid (M.out.trans C.out)
          replace G := Lib.hid (G.out.trans C.out)
          replace N := Lib.hid (N.out.trans C.out)
          clear C SS
          go_upto_region 16 with fail
          clear hz
          go_wp2_with fail
          refine (KN.out _).mono ?_
          rintro e wz ⟨rfl, C⟩
          have Z := Lib.hid (C1.out.trans (G.out.trans C.out))
          go_wp2_with fail
          go_ret
          exact ⟨by first | rfl | simp, Z⟩
        · subst ee
          go_upto_region 16 with fail
          go_wp2_with fail
          refine (KN.out _).mono ?_
          rintro e wz ⟨rfl, C⟩
          have Z := Lib.hid (C1.out.trans (G.out.trans C.out))
          go_wp2_with fail
          go_ret
          exact ⟨by first | rfl | simp, Z⟩
    · subst ee
      go_upto_region 14 with fail
      rcases Ec with ee | ee
      · subst ee
        have hz := hqc.out (by trivial)
        have SS := Lib.hid (Sc.out w13 vb y my (sb.out _ M.out) (sy.out _ N.out) ly)
        generalize decide (ec = my) = rr at *
        go_wp2_with fail
        refine SS.out.mono ?_
        rintro e w14 ⟨rfl, C⟩
        replace M := Lib.hid (M.out.trans C.out)
        replace G := Lib.hid (G.out.trans C.out)
        replace N := Lib.hid (N.out.trans C.out)
        clear C SS
        go_upto_region 15 with fail
        clear hz
        rcases Ek with ee | ee
        · subst ee
          have hz := hqk.out (by trivial)
          have SS := Lib.hid (Sk.out w14 vd z mz (sd.out _ M.out) (sz.out _ N.out) lz)
          generalize decide (ek = mz) = rr at *
          go_wp2_with fail
          refine SS.out.mono ?_
          rintro e w15 ⟨rfl, C⟩
          replace M := Lib.hid (M.out.trans C.out)
          replace G := Lib.hid (G.out.trans C.out)
          replace N := Lib.hid (N.out.trans C.out)
          clear C SS
          go_upto_region 16 with fail
          clear hz
          go_wp2_with fail
          refine (KN.out _).mono ?_
          rintro e wz ⟨rfl, C⟩
          have Z := Lib.hid (C1.out.trans (G.out.trans C.out))
          go_wp2_with fail
          go_ret
          exact ⟨by first | rfl | simp, Z⟩
        · subst ee
          go_upto_region 16 with fail
          go_wp2_with fail
          refine (KN.out _).mono ?_
          rintro e wz ⟨rfl, C⟩
          have Z := Lib.hid (C1.out.trans (G.out.trans C.out))
          go_wp2_with fail
          go_ret
          exact ⟨by first | rfl | simp, Z⟩
      · subst ee
        go_upto_region 15 with fail
        rcases Ek with ee | ee
        · subst ee
          have hz := hqk.out (by trivial)
          have SS := Lib.hid (Sk.out w13 vd z mz (sd.out _ M.out) (sz.out _ N.out) lz)
          generalize decide (ek = mz) = rr at *
          go_wp2_with fail
          refine SS.out.mono ?_
          rintro e w14 ⟨rfl, C⟩
          replace M := Lib.hid (M.out.trans C.out)
          replace G := Lib.hid (G.out.trans C.out)
          replace N := Lib.hid (N.out.trans C.out)
          clear C SS
          go_upto_region 16 with fail
          clear hz
          go_wp2_with fail
          refine (KN.out _).mono ?_
          rintro e wz ⟨rfl, C⟩
          have Z := Lib.hid (C1.out.trans (G.out.trans C.out))
          go_wp2_with fail
          go_ret
          exact ⟨by first | rfl | simp, Z⟩
        · subst ee
          go_upto_region 16 with fail
          go_wp2_with fail
          refine (KN.out _).mono ?_
          rintro e wz ⟨rfl, C⟩
          have Z := Lib.hid (C1.out.trans (G.out.trans C.out))
          go_wp2_with fail
          go_ret
          exact ⟨by first | rfl | simp, Z⟩

theorem recordTurned_walk (h : Hd) (c : Cm) (k : Ck) (at_ ch : Int) (w : World) (fh : h.Fit) (fc : c.Fit) (fk : k.Fit) (hc0 : 0 ≤ ch) (hc1 : ch ≤ 4294967295) :
    Calls Try.prog 6 #[h.val, c.val, k.val, .int .i64 at_, .int .u32 ch] w fun e w' => e = .returned (.bool true) ∧ Chg [] w w' := by
  obtain ⟨n, rfl⟩ := Int.eq_ofNat_of_zero_le hc0
  have hlo := Int.lt_tmod_of_pos at_ (show (0 : Int) < 1024 by decide)
  have hhi := Int.tmod_lt_of_pos at_ (show (0 : Int) < 1024 by decide)
  obtain ⟨r, hr⟩ : ∃ r, Int.tmod at_ 1024 = r := ⟨_, rfl⟩
  rw [hr] at hlo hhi
  obtain ⟨f, hf⟩ := Int.eq_ofNat_of_zero_le (show 0 ≤ (if r < 0 then r + 1024 else r) by split <;> omega)
  have hfl : f < 1024 := by
    split at hf <;> omega
  exact (recordTurned_core h c k at_ r f n w fh fc fk hr hf hfl (by omega) hlo hhi).mono fun _ _ h => ⟨h.1, h.2.out⟩

end Go.Proofs.Ytnjemjkjbeingaa