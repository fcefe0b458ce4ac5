/-
  Unlike things have unlike sectors, and no sector is read as two kinds. By an AI agent. Printed by gen_rclawa.py.
-/
import Derived.Test.YtnjemjkjbeingaaRcTri
import Derived.Deep.QuietTactic
namespace Go.Proofs.Ytnjemjkjbeingaa
open Go.RowKit Crc

theorem rc_four_blocks (w : World) (xs ys zs us : List Value) (t1 t2 t3 t4 : TypeId) {W : World} (h : W = (((w.alloc (.cells xs.toArray t1)).alloc (.cells ys.toArray t2)).alloc (.cells zs.toArray t3)).alloc (.cells us.toArray t4)) :
    Blk W w.heap.size t1 xs ∧ Blk W (w.heap.size + 1) t2 ys ∧ Blk W (w.heap.size + 1 + 1) t3 zs ∧ Blk W (w.heap.size + 1 + 1 + 1) t4 us ∧ Chg [] w W := by
  subst h
  obtain ⟨a, b, c, d⟩ := rc_three_blocks w xs ys zs t1 t2 t3 rfl
  have e3 : (((w.alloc (.cells xs.toArray t1)).alloc (.cells ys.toArray t2)).alloc (.cells zs.toArray t3)).heap.size = w.heap.size + 1 + 1 + 1 := by simp
  refine ⟨a.alloc _, b.alloc _, c.alloc _, ?_, d.alloc _⟩
  rw [← e3]
  exact Blk.made _ us t4

theorem Hd.apart (h : Hd) (f : h.Fit) (e : h.err = 0) : Hd.derr h.enc = 0 ∧ Cm.derr h.enc = 80 ∧ Ck.derr h.enc = 80 ∧ kindOf h.enc = 1 ∧ h.enc.length = 128 := by
  rcases h.err_in with ⟨_, e2, ok⟩ | ⟨e1, _⟩
  · rw [e2]
    obtain ⟨_, o2, o3⟩ := other_kind (r := h.rec') (show 6 ≤ 25 by decide) (show 1 ≤ 1 by decide) (show 1 ≤ 3 by decide)
    exact ⟨(Hd.back h ok f.sm).1, o2 (show 1 ≠ 2 by decide), o3 (show 1 ≠ 3 by decide), kindOf_sector (show 6 ≤ 25 by decide) (show 1 ≤ 1 by decide) (show 1 ≤ 3 by decide), h.sec_len⟩
  · rw [e1] at e; cases e
theorem Cm.apart (h : Cm) (f : h.Fit) (e : h.err = 0) : Hd.derr h.enc = 80 ∧ Cm.derr h.enc = 0 ∧ Ck.derr h.enc = 80 ∧ kindOf h.enc = 2 ∧ h.enc.length = 128 := by
  rcases h.err_in with ⟨_, e2, ok⟩ | ⟨e1, _⟩
  · rw [e2]
    obtain ⟨o1, _, o3⟩ := other_kind (r := h.rec') (show 2 ≤ 25 by decide) (show 1 ≤ 2 by decide) (show 2 ≤ 3 by decide)
    exact ⟨o1 (show 2 ≠ 1 by decide), (Cm.back h ok f.sm).1, o3 (show 2 ≠ 3 by decide), kindOf_sector (show 2 ≤ 25 by decide) (show 1 ≤ 2 by decide) (show 2 ≤ 3 by decide), h.sec_len⟩
  · rw [e1] at e; cases e
theorem Ck.apart (h : Ck) (e : h.err = 0) : Hd.derr h.enc = 80 ∧ Cm.derr h.enc = 80 ∧ Ck.derr h.enc = 0 ∧ kindOf h.enc = 3 ∧ h.enc.length = 128 := by
  rcases h.err_in with ⟨_, e2, ok⟩ | ⟨e1, _⟩
  · rw [e2]
    obtain ⟨o1, o2, _⟩ := other_kind (r := h.rec') (show 1 ≤ 25 by decide) (show 1 ≤ 3 by decide) (show 3 ≤ 3 by decide)
    exact ⟨o1 (show 3 ≠ 1 by decide), o2 (show 3 ≠ 2 by decide), (Ck.back h ok).1, kindOf_sector (show 1 ≤ 25 by decide) (show 1 ≤ 3 by decide) (show 3 ≤ 3 by decide), h.sec_len⟩
  · rw [e1] at e; cases e

theorem Hd.none (h : Hd) (e : h.err = 80) : h.enc.length = 0 := by
  rcases h.err_in with ⟨e1, _⟩ | ⟨_, e2, _⟩
  · rw [e1] at e; cases e
  · rw [e2]; rfl
theorem Cm.none (h : Cm) (e : h.err = 80) : h.enc.length = 0 := by
  rcases h.err_in with ⟨e1, _⟩ | ⟨_, e2, _⟩
  · rw [e1] at e; cases e
  · rw [e2]; rfl
theorem Ck.none (h : Ck) (e : h.err = 80) : h.enc.length = 0 := by
  rcases h.err_in with ⟨e1, _⟩ | ⟨_, e2, _⟩
  · rw [e1] at e; cases e
  · rw [e2]; rfl

/-- Two headers are the same if their sectors are. -/
theorem Hd.eql (h k : Hd) (fh : h.Fit) (fk : k.Fit) (eh : h.err = 0) (ek : k.err = 0) (W : World) : (binOp .eql 25 (.agg #[.int .u64 (h.ep : Int), .int .u64 (h.sq : Int), .int .i64 h.ix, .int .i64 h.ct, .int .i64 h.mb, .int .i64 h.rw', .bool h.esc, .int .u32 (h.sm : Int)]) (.agg #[.int .u64 (k.ep : Int), .int .u64 (k.sq : Int), .int .i64 k.ix, .int .i64 k.ct, .int .i64 k.mb, .int .i64 k.rw', .bool k.esc, .int .u32 (k.sm : Int)])).run Try.prog W = .ok (.bool (decide (h.enc = k.enc))) W := by
  rw [eql_header]
  congr 2
  refine decide_eq_decide.2 ⟨?_, ?_⟩
  · rintro ⟨a0, a1, a2, a3, a4, a5, a6, a7⟩
    have : h = k := by
      obtain ⟨h0, h1, h2, h3, h4, h5, h6, h7⟩ := h
      obtain ⟨k0, k1, k2, k3, k4, k5, k6, k7⟩ := k
      simp only at a0 a1 a2 a3 a4 a5 a6 a7
      obtain rfl : h0 = k0 := by omega
      obtain rfl : h1 = k1 := by omega
      obtain rfl : h7 = k7 := by omega
      subst a2 a3 a4 a5 a6
      rfl
    rw [this]
  · intro he
    rcases h.err_in with ⟨_, e2, ok⟩ | ⟨e1, _⟩
    · rcases k.err_in with ⟨_, e3, ok2⟩ | ⟨e1, _⟩
      · have s1 := Hd.of_sector h ok fh.sm
        have s2 := Hd.of_sector k ok2 fk.sm
        rw [e2, e3] at he
        rw [he] at s1
        have : h = k := s1.symm.trans s2
        subst this
        exact ⟨rfl, rfl, rfl, rfl, rfl, rfl, rfl, rfl⟩
      · rw [e1] at ek; cases ek
    · rw [e1] at eh; cases eh

set_option maxHeartbeats 16000000 in
set_option maxRecDepth 100000 in
theorem recordApart_core (h k : Hd) (c : Cm) (x : Ck) (w : World) (fh : h.Fit) (fk : k.Fit) (fc : c.Fit) (fx : x.Fit) :
    Calls Try.prog 7 #[h.val, k.val, c.val, x.val] w fun e w' => e = .returned (.bool true) ∧ Hid (Chg [] w w') := by
  have KN := Lib.hid known_any
  have DH := Lib.hid (fun v en W (s : Sl W v (ints en)) (hb : Bs en) hc => decHd_any v en W s hb hc)
  have DC := Lib.hid (fun v en W (s : Sl W v (ints en)) (hb : Bs en) hc => decCm_any v en W s hb hc)
  have DX := Lib.hid (fun v en W (s : Sl W v (ints en)) (hb : Bs en) hc => decCk_any v en W s hb hc)
  have KI := Lib.hid (fun v en W (s : Sl W v (ints en)) (hb : Bs en) hc => kind_any v en W s hb hc)
  have QQ := Lib.hid (Hd.eql h k fh fk)
  have SM := Lib.hid (fun W u v (k1 : Sl W u (ints h.enc)) (k2 : Sl W v (ints k.enc)) => same_any u v (ints h.enc) (ints k.enc) W k1 k2 (by rw [ints_length]; have := h.enc_len; omega) (by rw [ints_length]; have := k.enc_len; omega))
  simp only [ints_dec] at SM
  generalize decide (h.enc = k.enc) = rr at *
  have Ph := Lib.hid (fun W => encHd_any h W fh.ep fh.sq fh.sm)
  have Eh : h.err = 0 ∨ h.err = 80 := h.err_in.elim (fun m => .inl m.1) (fun m => .inr m.1)
  have Ah := Lib.hid (Hd.apart h fh)
  have Nh := Lib.hid (Hd.none h)
  have bh := Lib.hid h.enc_bs
  have Pk := Lib.hid (fun W => encHd_any k W fk.ep fk.sq fk.sm)
  have Ek : k.err = 0 ∨ k.err = 80 := k.err_in.elim (fun m => .inl m.1) (fun m => .inr m.1)
  have Pc := Lib.hid (fun W => encCm_any c W fc.ep fc.sq fc.sm)
  have Ec : c.err = 0 ∨ c.err = 80 := c.err_in.elim (fun m => .inl m.1) (fun m => .inr m.1)
  have Ac := Lib.hid (Cm.apart c fc)
  have Nc := Lib.hid (Cm.none c)
  have bc := Lib.hid c.enc_bs
  have Px := Lib.hid (fun W => encCk_any x W fx.ep fx.sq)
  have Ex : x.err = 0 ∨ x.err = 80 := x.err_in.elim (fun m => .inl m.1) (fun m => .inr m.1)
  have Ax := Lib.hid (Ck.apart x)
  have Nx := Lib.hid (Ck.none x)
  have bx := Lib.hid x.enc_bs
  unfold PcEncs at Ph Pk Pc Px
  unfold Hd.val at Ph Pk
  unfold Cm.val at Pc
  unfold Ck.val at Px
  unfold Hd.val Cm.val Ck.val
  generalize h.enc = eh at *
  generalize h.err = rh at *
  generalize k.enc = ek at *
  generalize k.err = rk at *
  generalize c.enc = ec at *
  generalize c.err = rc at *
  generalize x.enc = ex at *
  generalize x.err = rx at *
  clear fh fk fc fx
  go_enter Try.func7, Try.ntmps7
  go_upto_region 1 with fail
  refine wp_named2 (fun W1 hW1 => ?_)
  obtain ⟨BH, BK, BC, BX, C1⟩ := rc_four_blocks w [.int .u64 (h.ep : Int), .int .u64 (h.sq : Int), .int .i64 h.ix, .int .i64 h.ct, .int .i64 h.mb, .int .i64 h.rw', .bool h.esc, .int .u32 (h.sm : Int)] [.int .u64 (k.ep : Int), .int .u64 (k.sq : Int), .int .i64 k.ix, .int .i64 k.ct, .int .i64 k.mb, .int .i64 k.rw', .bool k.esc, .int .u32 (k.sm : Int)] [.int .u64 (c.ep : Int), .int .u64 (c.sq : Int), .int .i64 c.ct, .int .u32 (c.sm : Int)] [.int .u64 (x.ep : Int), .int .u64 (x.sq : Int), .int .i64 x.tl] 25 25 27 29 hW1
  have Bh : Hid (∀ W, Chg [] W1 W → Blk W (w.heap.size) 25 [.int .u64 (h.ep : Int), .int .u64 (h.sq : Int), .int .i64 h.ix, .int .i64 h.ct, .int .i64 h.mb, .int .i64 h.rw', .bool h.esc, .int .u32 (h.sm : Int)]) := fun W d => BH.chg d (by simp)
  have Bk : Hid (∀ W, Chg [] W1 W → Blk W (w.heap.size + 1) 25 [.int .u64 (k.ep : Int), .int .u64 (k.sq : Int), .int .i64 k.ix, .int .i64 k.ct, .int .i64 k.mb, .int .i64 k.rw', .bool k.esc, .int .u32 (k.sm : Int)]) := fun W d => BK.chg d (by simp)
  have Bc : Hid (∀ W, Chg [] W1 W → Blk W (w.heap.size + 1 + 1) 27 [.int .u64 (c.ep : Int), .int .u64 (c.sq : Int), .int .i64 c.ct, .int .u32 (c.sm : Int)]) := fun W d => BC.chg d (by simp)
  have Bx : Hid (∀ W, Chg [] W1 W → Blk W (w.heap.size + 1 + 1 + 1) 29 [.int .u64 (x.ep : Int), .int .u64 (x.sq : Int), .int .i64 x.tl]) := fun W d => BX.chg d (by simp)
  replace C1 := Lib.hid C1
  clear hW1 BH BK BC BX
  have G : Hid (Chg [] W1 W1) := Chg.refl _ _
  have q0 := (Bh.out _ G.out).cell (j := 0) rfl
  have q1 := (Bh.out _ G.out).cell (j := 1) rfl
  have q2 := (Bh.out _ G.out).cell (j := 2) rfl
  have q3 := (Bh.out _ G.out).cell (j := 3) rfl
  have q4 := (Bh.out _ G.out).cell (j := 4) rfl
  have q5 := (Bh.out _ G.out).cell (j := 5) rfl
  have q6 := (Bh.out _ G.out).cell (j := 6) rfl
  have q7 := (Bh.out _ G.out).cell (j := 7) rfl
  go_wp2_with fail
  refine (Ph.out W1).mono ?_
  rintro e w2 ⟨va, rfl, O, C⟩
  replace G := Lib.hid (G.out.trans C.out)
  have sh : Hid (∀ W, Chg [] w2 W → Sl W va (ints eh)) := fun W d => Sl.owned (owns_chg O.out d (by simp))
  have ch : Hid (∀ ao n c, va = .slice ao n c → n ≤ c) := own_caps2 O.out
  have zh : ∃ o c, va = .slice o eh.length c := (fun ⟨o, c, e⟩ => ⟨o, c, e⟩) (owns_slice O.out)
  clear O C Ph q0 q1 q2 q3 q4 q5 q6 q7
  have q0 := (Bk.out _ G.out).cell (j := 0) rfl
  have q1 := (Bk.out _ G.out).cell (j := 1) rfl
  have q2 := (Bk.out _ G.out).cell (j := 2) rfl
  have q3 := (Bk.out _ G.out).cell (j := 3) rfl
  have q4 := (Bk.out _ G.out).cell (j := 4) rfl
  have q5 := (Bk.out _ G.out).cell (j := 5) rfl
  have q6 := (Bk.out _ G.out).cell (j := 6) rfl
  have q7 := (Bk.out _ G.out).cell (j := 7) rfl
  go_wp2_with fail
  refine (Pk.out w2).mono ?_
  rintro e w3 ⟨vb, rfl, O, C⟩
  replace G := Lib.hid (G.out.trans C.out)
  replace sh : Hid (∀ W, Chg [] w3 W → Sl W va (ints eh)) := fun W d => sh.out W (C.out.trans d)
  have sk : Hid (∀ W, Chg [] w3 W → Sl W vb (ints ek)) := fun W d => Sl.owned (owns_chg O.out d (by simp))
  have ck : Hid (∀ ao n c, vb = .slice ao n c → n ≤ c) := own_caps2 O.out
  have zk : ∃ o c, vb = .slice o ek.length c := (fun ⟨o, c, e⟩ => ⟨o, c, e⟩) (owns_slice O.out)
  clear O C Pk q0 q1 q2 q3 q4 q5 q6 q7
  have q0 := (Bc.out _ G.out).cell (j := 0) rfl
  have q1 := (Bc.out _ G.out).cell (j := 1) rfl
  have q2 := (Bc.out _ G.out).cell (j := 2) rfl
  have q3 := (Bc.out _ G.out).cell (j := 3) rfl
  go_wp2_with fail
  refine (Pc.out w3).mono ?_
  rintro e w4 ⟨vd, rfl, O, C⟩
  replace G := Lib.hid (G.out.trans C.out)
  replace sh : Hid (∀ W, Chg [] w4 W → Sl W va (ints eh)) := fun W d => sh.out W (C.out.trans d)
  replace sk : Hid (∀ W, Chg [] w4 W → Sl W vb (ints ek)) := fun W d => sk.out W (C.out.trans d)
  have sc : Hid (∀ W, Chg [] w4 W → Sl W vd (ints ec)) := fun W d => Sl.owned (owns_chg O.out d (by simp))
  have cc : Hid (∀ ao n c, vd = .slice ao n c → n ≤ c) := own_caps2 O.out
  have zc : ∃ o c, vd = .slice o ec.length c := (fun ⟨o, c, e⟩ => ⟨o, c, e⟩) (owns_slice O.out)
  clear O C Pc q0 q1 q2 q3
  have q0 := (Bx.out _ G.out).cell (j := 0) rfl
  have q1 := (Bx.out _ G.out).cell (j := 1) rfl
  have q2 := (Bx.out _ G.out).cell (j := 2) rfl
  go_wp2_with fail
  refine (Px.out w4).mono ?_
  rintro e w5 ⟨vy, rfl, O, C⟩
  replace G := Lib.hid (G.out.trans C.out)
  replace sh : Hid (∀ W, Chg [] w5 W → Sl W va (ints eh)) := fun W d => sh.out W (C.out.trans d)
  replace sk : Hid (∀ W, Chg [] w5 W → Sl W vb (ints ek)) := fun W d => sk.out W (C.out.trans d)
  replace sc : Hid (∀ W, Chg [] w5 W → Sl W vd (ints ec)) := fun W d => sc.out W (C.out.trans d)
  have sx : Hid (∀ W, Chg [] w5 W → Sl W vy (ints ex)) := fun W d => Sl.owned (owns_chg O.out d (by simp))
  have cx : Hid (∀ ao n c, vy = .slice ao n c → n ≤ c) := own_caps2 O.out
  have zx : ∃ o c, vy = .slice o ex.length c := (fun ⟨o, c, e⟩ => ⟨o, c, e⟩) (owns_slice O.out)
  clear O C Px q0 q1 q2
  obtain ⟨oh, ph, rfl⟩ := zh
  obtain ⟨oc, pc, rfl⟩ := zc
  obtain ⟨ox, px, rfl⟩ := zx
  obtain ⟨ok, pk, rfl⟩ := zk
  have Eh0 := Eh
  rcases Eh with ee | ee
  · rcases Ek with ff | ff
    · have hq := QQ.out ee ff
      clear QQ
      subst ff
      have Eh := Eh0
      clear Eh0
      have hee : ((rh : Int) == 0) = true := by rw [ee]; rfl
      replace ee := Lib.hid ee
      have q0 := (Bh.out _ G.out).cell (j := 0) rfl
      have r0 := (Bk.out _ G.out).cell (j := 0) rfl
      have q1 := (Bh.out _ G.out).cell (j := 1) rfl
      have r1 := (Bk.out _ G.out).cell (j := 1) rfl
      have q2 := (Bh.out _ G.out).cell (j := 2) rfl
      have r2 := (Bk.out _ G.out).cell (j := 2) rfl
      have q3 := (Bh.out _ G.out).cell (j := 3) rfl
      have r3 := (Bk.out _ G.out).cell (j := 3) rfl
      have q4 := (Bh.out _ G.out).cell (j := 4) rfl
      have r4 := (Bk.out _ G.out).cell (j := 4) rfl
      have q5 := (Bh.out _ G.out).cell (j := 5) rfl
      have r5 := (Bk.out _ G.out).cell (j := 5) rfl
      have q6 := (Bh.out _ G.out).cell (j := 6) rfl
      have r6 := (Bk.out _ G.out).cell (j := 6) rfl
      have q7 := (Bh.out _ G.out).cell (j := 7) rfl
      have r7 := (Bk.out _ G.out).cell (j := 7) rfl
      have SS := Lib.hid (fun nn => SM.out (w5.drewN nn) _ _ (sh.out _ ((Chg.refl _ _).drewN nn)) (sk.out _ ((Chg.refl _ _).drewN nn)))
      go_wp2_with fail
      go_quiet ((go_at_call 16; exact Calls.quiet_of (SS.out _)))
      clear hq hee SS SM q0 r0 q1 r1 q2 r2 q3 r3 q4 r4 q5 r5 q6 r6 q7 r7
      go_upto_region 8 with fail
      refine wp_named2 (fun w7 hw7 => ?_)
      have H7 : Hid (Chg [] w5 w7) := by show Chg _ _ _; rw [hw7]; exact ((Chg.refl [] w5).drewN _).alloc _
      have LB : Hid (Blk w7 w5.heap.size 30 [.slice oh eh.length ph, .slice oc ec.length pc, .slice ox ex.length px]) := by show Blk _ _ _ _; rw [hw7]; exact Blk.made _ [.slice oh eh.length ph, .slice oc ec.length pc, .slice ox ex.length px] _
      clear hw7
      obtain ⟨lb, hlb⟩ : ∃ lb, lb = w5.heap.size := ⟨_, rfl⟩
      rw [← hlb] at LB ⊢
      clear hlb
      go_wp2_with fail
      go_loopw [18] (fun i wr => ∃ n : Nat, n ≤ 3 ∧ i = .int .i64 n ∧ Hid (Chg [] w7 wr)) (fun i _ => 3 - (intOf i).toNat)
      case atStart => exact ⟨0, Nat.zero_le _, rfl, Chg.refl _ _⟩
      case round =>
        obtain ⟨n, hn, rfl, C⟩ := hrel
        obtain rfl | rfl | rfl | rfl : n = 0 ∨ n = 1 ∨ n = 2 ∨ n = 3 := by omega
        · have l0 := (LB.out.chg C.out (by simp)).cell (j := 0) rfl
          rcases Eh with ee | ee
          · subst ee
            obtain ⟨a1, a2, a3, a4, a5⟩ := Ah.out (by trivial)
            have hl : ((eh.length : Int) == 0) = false := by rw [a5]; rfl
            replace a1 := Lib.hid a1
            replace a2 := Lib.hid a2
            replace a3 := Lib.hid a3
            replace a4 := Lib.hid a4
            clear a5
            have dd := Lib.hid (DH.out _ eh wr (sh.out _ (H7.out.trans C.out)) bh.out ch.out)
            rw [a1.out] at dd
            unfold Hd.val at dd
            generalize Hd.dval eh = dv0 at dd
            go_wp2_with fail
            refine dd.out.mono ?_
            rintro e w8 ⟨rfl, C'⟩
            have K0 := Lib.hid (C.out.trans C'.out)
            clear C' dd l0
            go_upto_region 13 with fail
            refine wp_named2 (fun w9 hw => ?_)
            have M0 : Hid (Chg [] w7 w9) := by show Chg _ _ _; rw [hw]; exact K0.out.alloc _
            clear hw K0
            have l1 := (LB.out.chg M0.out (by simp)).cell (j := 0) rfl
            have dd := Lib.hid (DC.out _ eh w9 (sh.out _ (H7.out.trans M0.out)) bh.out ch.out)
            rw [a2.out] at dd
            unfold Cm.val at dd
            generalize Cm.dval eh = dv1 at dd
            go_wp2_with fail
            refine dd.out.mono ?_
            rintro e w10 ⟨rfl, C'⟩
            have K1 := Lib.hid (M0.out.trans C'.out)
            clear C' dd l1
            go_upto_region 14 with fail
            refine wp_named2 (fun w11 hw => ?_)
            have M1 : Hid (Chg [] w7 w11) := by show Chg _ _ _; rw [hw]; exact K1.out.alloc _
            clear hw K1
            have l2 := (LB.out.chg M1.out (by simp)).cell (j := 0) rfl
            have dd := Lib.hid (DX.out _ eh w11 (sh.out _ (H7.out.trans M1.out)) bh.out ch.out)
            rw [a3.out] at dd
            unfold Ck.val at dd
            generalize Ck.dval eh = dv2 at dd
            go_wp2_with fail
            refine dd.out.mono ?_
            rintro e w12 ⟨rfl, C'⟩
            have K2 := Lib.hid (M1.out.trans C'.out)
            clear C' dd l2
            go_upto_region 15 with fail
            refine wp_named2 (fun w13 hw => ?_)
            have M2 : Hid (Chg [] w7 w13) := by show Chg _ _ _; rw [hw]; exact K2.out.alloc _
            clear hw K2
            have l3 := (LB.out.chg M2.out (by simp)).cell (j := 0) rfl
            have dd := Lib.hid (KI.out _ eh w13 (sh.out _ (H7.out.trans M2.out)) bh.out ch.out)
            rw [a4.out] at dd
            go_wp2_with fail
            refine dd.out.mono ?_
            rintro e wz ⟨rfl, rfl⟩
            go_wp2_with fail
            exact ⟨⟨1, by omega, rfl, M2⟩, by simp [intOf]⟩
          · subst ee
            have hl : ((eh.length : Int) == 0) = true := by rw [Nh.out (by trivial)]; rfl
            go_wp2_with fail
            exact ⟨⟨1, by omega, rfl, C⟩, by simp [intOf]⟩
        · have l0 := (LB.out.chg C.out (by simp)).cell (j := 1) rfl
          rcases Ec with ee | ee
          · subst ee
            obtain ⟨a1, a2, a3, a4, a5⟩ := Ac.out (by trivial)
            have hl : ((ec.length : Int) == 0) = false := by rw [a5]; rfl
            replace a1 := Lib.hid a1
            replace a2 := Lib.hid a2
            replace a3 := Lib.hid a3
            replace a4 := Lib.hid a4
            clear a5
            have dd := Lib.hid (DH.out _ ec wr (sc.out _ (H7.out.trans C.out)) bc.out cc.out)
            rw [a1.out] at dd
            unfold Hd.val at dd
            generalize Hd.dval ec = dv0 at dd
            go_wp2_with fail
            refine dd.out.mono ?_
            rintro e w8 ⟨rfl, C'⟩
            have K0 := Lib.hid (C.out.trans C'.out)
            clear C' dd l0
            go_upto_region 13 with fail
            refine wp_named2 (fun w9 hw => ?_)
            have M0 : Hid (Chg [] w7 w9) := by show Chg _ _ _; rw [hw]; exact K0.out.alloc _
            clear hw K0
            have l1 := (LB.out.chg M0.out (by simp)).cell (j := 1) rfl
            have dd := Lib.hid (DC.out _ ec w9 (sc.out _ (H7.out.trans M0.out)) bc.out cc.out)
            rw [a2.out] at dd
            unfold Cm.val at dd
            generalize Cm.dval ec = dv1 at dd
            go_wp2_with fail
            refine dd.out.mono ?_
            rintro e w10 ⟨rfl, C'⟩
            have K1 := Lib.hid (M0.out.trans C'.out)
            clear C' dd l1
            go_upto_region 14 with fail
            refine wp_named2 (fun w11 hw => ?_)
            have M1 : Hid (Chg [] w7 w11) := by show Chg _ _ _; rw [hw]; exact K1.out.alloc _
            clear hw K1
            have l2 := (LB.out.chg M1.out (by simp)).cell (j := 1) rfl
            have dd := Lib.hid (DX.out _ ec w11 (sc.out _ (H7.out.trans M1.out)) bc.out cc.out)
            rw [a3.out] at dd
            unfold Ck.val at dd
            generalize Ck.dval ec = dv2 at dd
            go_wp2_with fail
            refine dd.out.mono ?_
            rintro e w12 ⟨rfl, C'⟩
            have K2 := Lib.hid (M1.out.trans C'.out)
            clear C' dd l2
            go_upto_region 15 with fail
            refine wp_named2 (fun w13 hw => ?_)
            have M2 : Hid (Chg [] w7 w13) := by show Chg _ _ _; rw [hw]; exact K2.out.alloc _
            clear hw K2
            have l3 := (LB.out.chg M2.out (by simp)).cell (j := 1) rfl
            have dd := Lib.hid (KI.out _ ec w13 (sc.out _ (H7.out.trans M2.out)) bc.out cc.out)
            rw [a4.out] at dd
            go_wp2_with fail
            refine dd.out.mono ?_
            rintro e wz ⟨rfl, rfl⟩
            go_wp2_with fail
            exact ⟨⟨2, by omega, rfl, M2⟩, by simp [intOf]⟩
          · subst ee
            have hl : ((ec.length : Int) == 0) = true := by rw [Nc.out (by trivial)]; rfl
            go_wp2_with fail
            exact ⟨⟨2, by omega, rfl, C⟩, by simp [intOf]⟩
        · have l0 := (LB.out.chg C.out (by simp)).cell (j := 2) rfl
          rcases Ex with ee | ee
          · subst ee
            obtain ⟨a1, a2, a3, a4, a5⟩ := Ax.out (by trivial)
            have hl : ((ex.length : Int) == 0) = false := by rw [a5]; rfl
            replace a1 := Lib.hid a1
            replace a2 := Lib.hid a2
            replace a3 := Lib.hid a3
            replace a4 := Lib.hid a4
            clear a5
            have dd := Lib.hid (DH.out _ ex wr (sx.out _ (H7.out.trans C.out)) bx.out cx.out)
            rw [a1.out] at dd
            unfold Hd.val at dd
            generalize Hd.dval ex = dv0 at dd
            go_wp2_with fail
            refine dd.out.mono ?_
            rintro e w8 ⟨rfl, C'⟩
            have K0 := Lib.hid (C.out.trans C'.out)
            clear C' dd l0
            go_upto_region 13 with fail
            refine wp_named2 (fun w9 hw => ?_)
            have M0 : Hid (Chg [] w7 w9) := by show Chg _ _ _; rw [hw]; exact K0.out.alloc _
            clear hw K0
            have l1 := (LB.out.chg M0.out (by simp)).cell (j := 2) rfl
            have dd := Lib.hid (DC.out _ ex w9 (sx.out _ (H7.out.trans M0.out)) bx.out cx.out)
            rw [a2.out] at dd
            unfold Cm.val at dd
            generalize Cm.dval ex = dv1 at dd
            go_wp2_with fail
            refine dd.out.mono ?_
            rintro e w10 ⟨rfl, C'⟩
            have K1 := Lib.hid (M0.out.trans C'.out)
            clear C' dd l1
            go_upto_region 14 with fail
            refine wp_named2 (fun w11 hw => ?_)
            have M1 : Hid (Chg [] w7 w11) := by show Chg _ _ _; rw [hw]; exact K1.out.alloc _
            clear hw K1
            have l2 := (LB.out.chg M1.out (by simp)).cell (j := 2) rfl
            have dd := Lib.hid (DX.out _ ex w11 (sx.out _ (H7.out.trans M1.out)) bx.out cx.out)
            rw [a3.out] at dd
            unfold Ck.val at dd
            generalize Ck.dval ex = dv2 at dd
            go_wp2_with fail
            refine dd.out.mono ?_
            rintro e w12 ⟨rfl, C'⟩
            have K2 := Lib.hid (M1.out.trans C'.out)
            clear C' dd l2
            go_upto_region 15 with fail
            refine wp_named2 (fun w13 hw => ?_)
            have M2 : Hid (Chg [] w7 w13) := by show Chg _ _ _; rw [hw]; exact K2.out.alloc _
            clear hw K2
            have l3 := (LB.out.chg M2.out (by simp)).cell (j := 2) rfl
            have dd := Lib.hid (KI.out _ ex w13 (sx.out _ (H7.out.trans M2.out)) bx.out cx.out)
            rw [a4.out] at dd
            go_wp2_with fail
            refine dd.out.mono ?_
            rintro e wz ⟨rfl, rfl⟩
            go_wp2_with fail
            exact ⟨⟨3, by omega, rfl, M2⟩, by simp [intOf]⟩
          · subst ee
            have hl : ((ex.length : Int) == 0) = true := by rw [Nx.out (by trivial)]; rfl
            go_wp2_with fail
            exact ⟨⟨3, by omega, rfl, C⟩, by simp [intOf]⟩
        · go_wp2_with fail
          refine (KN.out _).mono ?_
          rintro e wz ⟨rfl, C'⟩
          have Z := Lib.hid (C1.out.trans (G.out.trans (H7.out.trans (C.out.trans C'.out))))
          clear C'
          rcases Ec with ee | ee <;> rcases Ex with ff | ff
          · subst ee ff
            obtain ⟨_, _, _, _, a5⟩ := Ac.out (by trivial)
            obtain ⟨_, _, _, _, b5⟩ := Ax.out (by trivial)
            have hl1 : ((ec.length : Int) == 128) = true := by rw [a5]; rfl
            clear a5
            have hl2 : ((ex.length : Int) == 128) = true := by rw [b5]; rfl
            clear b5
            go_wp2_with fail
            go_ret
            exact ⟨by first | rfl | simp, Z⟩
          · subst ee ff
            obtain ⟨_, _, _, _, a5⟩ := Ac.out (by trivial)
            have hl1 : ((ec.length : Int) == 128) = true := by rw [a5]; rfl
            clear a5
            go_wp2_with fail
            go_ret
            exact ⟨by first | rfl | simp, Z⟩
          · subst ee ff
            obtain ⟨_, _, _, _, b5⟩ := Ax.out (by trivial)
            have hl2 : ((ex.length : Int) == 128) = true := by rw [b5]; rfl
            clear b5
            go_wp2_with fail
            go_ret
            exact ⟨by first | rfl | simp, Z⟩
          · subst ee ff
            go_wp2_with fail
            go_ret
            exact ⟨by first | rfl | simp, Z⟩
    · subst ff
      have Eh := Eh0
      clear Eh0 QQ SM
      have hee : ((rh : Int) == 0) = true := by rw [ee]; rfl
      replace ee := Lib.hid ee
      go_wp2_with fail
      go_quiet (fail)
      clear hee
      go_upto_region 8 with fail
      refine wp_named2 (fun w7 hw7 => ?_)
      have H7 : Hid (Chg [] w5 w7) := by show Chg _ _ _; rw [hw7]; exact ((Chg.refl [] w5).drewN _).alloc _
      have LB : Hid (Blk w7 w5.heap.size 30 [.slice oh eh.length ph, .slice oc ec.length pc, .slice ox ex.length px]) := by show Blk _ _ _ _; rw [hw7]; exact Blk.made _ [.slice oh eh.length ph, .slice oc ec.length pc, .slice ox ex.length px] _
      clear hw7
      obtain ⟨lb, hlb⟩ : ∃ lb, lb = w5.heap.size := ⟨_, rfl⟩
      rw [← hlb] at LB ⊢
      clear hlb
      go_wp2_with fail
      go_loopw [18] (fun i wr => ∃ n : Nat, n ≤ 3 ∧ i = .int .i64 n ∧ Hid (Chg [] w7 wr)) (fun i _ => 3 - (intOf i).toNat)
      case atStart => exact ⟨0, Nat.zero_le _, rfl, Chg.refl _ _⟩
      case round =>
        obtain ⟨n, hn, rfl, C⟩ := hrel
        obtain rfl | rfl | rfl | rfl : n = 0 ∨ n = 1 ∨ n = 2 ∨ n = 3 := by omega
        · have l0 := (LB.out.chg C.out (by simp)).cell (j := 0) rfl
          rcases Eh with ee | ee
          · subst ee
            obtain ⟨a1, a2, a3, a4, a5⟩ := Ah.out (by trivial)
            have hl : ((eh.length : Int) == 0) = false := by rw [a5]; rfl
            replace a1 := Lib.hid a1
            replace a2 := Lib.hid a2
            replace a3 := Lib.hid a3
            replace a4 := Lib.hid a4
            clear a5
            have dd := Lib.hid (DH.out _ eh wr (sh.out _ (H7.out.trans C.out)) bh.out ch.out)
            rw [a1.out] at dd
            unfold Hd.val at dd
            generalize Hd.dval eh = dv0 at dd
            go_wp2_with fail
            refine dd.out.mono ?_
            rintro e w8 ⟨rfl, C'⟩
            have K0 := Lib.hid (C.out.trans C'.out)
            clear C' dd l0
            go_upto_region 13 with fail
            refine wp_named2 (fun w9 hw => ?_)
            have M0 : Hid (Chg [] w7 w9) := by show Chg _ _ _; rw [hw]; exact K0.out.alloc _
            clear hw K0
            have l1 := (LB.out.chg M0.out (by simp)).cell (j := 0) rfl
            have dd := Lib.hid (DC.out _ eh w9 (sh.out _ (H7.out.trans M0.out)) bh.out ch.out)
            rw [a2.out] at dd
            unfold Cm.val at dd
            generalize Cm.dval eh = dv1 at dd
            go_wp2_with fail
            refine dd.out.mono ?_
            rintro e w10 ⟨rfl, C'⟩
            have K1 := Lib.hid (M0.out.trans C'.out)
            clear C' dd l1
            go_upto_region 14 with fail
            refine wp_named2 (fun w11 hw => ?_)
            have M1 : Hid (Chg [] w7 w11) := by show Chg _ _ _; rw [hw]; exact K1.out.alloc _
            clear hw K1
            have l2 := (LB.out.chg M1.out (by simp)).cell (j := 0) rfl
            have dd := Lib.hid (DX.out _ eh w11 (sh.out _ (H7.out.trans M1.out)) bh.out ch.out)
            rw [a3.out] at dd
            unfold Ck.val at dd
            generalize Ck.dval eh = dv2 at dd
            go_wp2_with fail
            refine dd.out.mono ?_
            rintro e w12 ⟨rfl, C'⟩
            have K2 := Lib.hid (M1.out.trans C'.out)
            clear C' dd l2
            go_upto_region 15 with fail
            refine wp_named2 (fun w13 hw => ?_)
            have M2 : Hid (Chg [] w7 w13) := by show Chg _ _ _; rw [hw]; exact K2.out.alloc _
            clear hw K2
            have l3 := (LB.out.chg M2.out (by simp)).cell (j := 0) rfl
            have dd := Lib.hid (KI.out _ eh w13 (sh.out _ (H7.out.trans M2.out)) bh.out ch.out)
            rw [a4.out] at dd
            go_wp2_with fail
            refine dd.out.mono ?_
            rintro e wz ⟨rfl, rfl⟩
            go_wp2_with fail
            exact ⟨⟨1, by omega, rfl, M2⟩, by simp [intOf]⟩
          · subst ee
            have hl : ((eh.length : Int) == 0) = true := by rw [Nh.out (by trivial)]; rfl
            go_wp2_with fail
            exact ⟨⟨1, by omega, rfl, C⟩, by simp [intOf]⟩
        · have l0 := (LB.out.chg C.out (by simp)).cell (j := 1) rfl
          rcases Ec with ee | ee
          · subst ee
            obtain ⟨a1, a2, a3, a4, a5⟩ := Ac.out (by trivial)
            have hl : ((ec.length : Int) == 0) = false := by rw [a5]; rfl
            replace a1 := Lib.hid a1
            replace a2 := Lib.hid a2
            replace a3 := Lib.hid a3
            replace a4 := Lib.hid a4
            clear a5
            have dd := Lib.hid (DH.out _ ec wr (sc.out _ (H7.out.trans C.out)) bc.out cc.out)
            rw [a1.out] at dd
            unfold Hd.val at dd
            generalize Hd.dval ec = dv0 at dd
            go_wp2_with fail
            refine dd.out.mono ?_
            rintro e w8 ⟨rfl, C'⟩
            have K0 := Lib.hid (C.out.trans C'.out)
            clear C' dd l0
            go_upto_region 13 with fail
            refine wp_named2 (fun w9 hw => ?_)
            have M0 : Hid (Chg [] w7 w9) := by show Chg _ _ _; rw [hw]; exact K0.out.alloc _
            clear hw K0
            have l1 := (LB.out.chg M0.out (by simp)).cell (j := 1) rfl
            have dd := Lib.hid (DC.out _ ec w9 (sc.out _ (H7.out.trans M0.out)) bc.out cc.out)
            rw [a2.out] at dd
            unfold Cm.val at dd
            generalize Cm.dval ec = dv1 at dd
            go_wp2_with fail
            refine dd.out.mono ?_
            rintro e w10 ⟨rfl, C'⟩
            have K1 := Lib.hid (M0.out.trans C'.out)
            clear C' dd l1
            go_upto_region 14 with fail
            refine wp_named2 (fun w11 hw => ?_)
            have M1 : Hid (Chg [] w7 w11) := by show Chg _ _ _; rw [hw]; exact K1.out.alloc _
            clear hw K1
            have l2 := (LB.out.chg M1.out (by simp)).cell (j := 1) rfl
            have dd := Lib.hid (DX.out _ ec w11 (sc.out _ (H7.out.trans M1.out)) bc.out cc.out)
            rw [a3.out] at dd
            unfold Ck.val at dd
            generalize Ck.dval ec = dv2 at dd
            go_wp2_with fail
            refine dd.out.mono ?_
            rintro e w12 ⟨rfl, C'⟩
            have K2 := Lib.hid (M1.out.trans C'.out)
            clear C' dd l2
            go_upto_region 15 with fail
            refine wp_named2 (fun w13 hw => ?_)
            have M2 : Hid (Chg [] w7 w13) := by show Chg _ _ _; rw [hw]; exact K2.out.alloc _
            clear hw K2
            have l3 := (LB.out.chg M2.out (by simp)).cell (j := 1) rfl
            have dd := Lib.hid (KI.out _ ec w13 (sc.out _ (H7.out.trans M2.out)) bc.out cc.out)
            rw [a4.out] at dd
            go_wp2_with fail
            refine dd.out.mono ?_
            rintro e wz ⟨rfl, rfl⟩
            go_wp2_with fail
            exact ⟨⟨2, by omega, rfl, M2⟩, by simp [intOf]⟩
          · subst ee
            have hl : ((ec.length : Int) == 0) = true := by rw [Nc.out (by trivial)]; rfl
            go_wp2_with fail
            exact ⟨⟨2, by omega, rfl, C⟩, by simp [intOf]⟩
        · have l0 := (LB.out.chg C.out (by simp)).cell (j := 2) rfl
          rcases Ex with ee | ee
          · subst ee
            obtain ⟨a1, a2, a3, a4, a5⟩ := Ax.out (by trivial)
            have hl : ((ex.length : Int) == 0) = false := by rw [a5]; rfl
            replace a1 := Lib.hid a1
            replace a2 := Lib.hid a2
            replace a3 := Lib.hid a3
            replace a4 := Lib.hid a4
            clear a5
            have dd := Lib.hid (DH.out _ ex wr (sx.out _ (H7.out.trans C.out)) bx.out cx.out)
            rw [a1.out] at dd
            unfold Hd.val at dd
            generalize Hd.dval ex = dv0 at dd
            go_wp2_with fail
            refine dd.out.mono ?_
            rintro e w8 ⟨rfl, C'⟩
            have K0 := Lib.hid (C.out.trans C'.out)
            clear C' dd l0
            go_upto_region 13 with fail
            refine wp_named2 (fun w9 hw => ?_)
            have M0 : Hid (Chg [] w7 w9) := by show Chg _ _ _; rw [hw]; exact K0.out.alloc _
            clear hw K0
            have l1 := (LB.out.chg M0.out (by simp)).cell (j := 2) rfl
            have dd := Lib.hid (DC.out _ ex w9 (sx.out _ (H7.out.trans M0.out)) bx.out cx.out)
            rw [a2.out] at dd
            unfold Cm.val at dd
            generalize Cm.dval ex = dv1 at dd
            go_wp2_with fail
            refine dd.out.mono ?_
            rintro e w10 ⟨rfl, C'⟩
            have K1 := Lib.hid (M0.out.trans C'.out)
            clear C' dd l1
            go_upto_region 14 with fail
            refine wp_named2 (fun w11 hw => ?_)
            have M1 : Hid (Chg [] w7 w11) := by show Chg _ _ _; rw [hw]; exact K1.out.alloc _
            clear hw K1
            have l2 := (LB.out.chg M1.out (by simp)).cell (j := 2) rfl
            have dd := Lib.hid (DX.out _ ex w11 (sx.out _ (H7.out.trans M1.out)) bx.out cx.out)
            rw [a3.out] at dd
            unfold Ck.val at dd
            generalize Ck.dval ex = dv2 at dd
            go_wp2_with fail
            refine dd.out.mono ?_
            rintro e w12 ⟨rfl, C'⟩
            have K2 := Lib.hid (M1.out.trans C'.out)
            clear C' dd l2
            go_upto_region 15 with fail
            refine wp_named2 (fun w13 hw => ?_)
            have M2 : Hid (Chg [] w7 w13) := by show Chg _ _ _; rw [hw]; exact K2.out.alloc _
            clear hw K2
            have l3 := (LB.out.chg M2.out (by simp)).cell (j := 2) rfl
            have dd := Lib.hid (KI.out _ ex w13 (sx.out _ (H7.out.trans M2.out)) bx.out cx.out)
            rw [a4.out] at dd
            go_wp2_with fail
            refine dd.out.mono ?_
            rintro e wz ⟨rfl, rfl⟩
            go_wp2_with fail
            exact ⟨⟨3, by omega, rfl, M2⟩, by simp [intOf]⟩
          · subst ee
            have hl : ((ex.length : Int) == 0) = true := by rw [Nx.out (by trivial)]; rfl
            go_wp2_with fail
            exact ⟨⟨3, by omega, rfl, C⟩, by simp [intOf]⟩
        · go_wp2_with fail
          refine (KN.out _).mono ?_
          rintro e wz ⟨rfl, C'⟩
          have Z := Lib.hid (C1.out.trans (G.out.trans (H7.out.trans (C.out.trans C'.out))))
          clear C'
          rcases Ec with ee | ee <;> rcases Ex with ff | ff
          · subst ee ff
            obtain ⟨_, _, _, _, a5⟩ := Ac.out (by trivial)
            obtain ⟨_, _, _, _, b5⟩ := Ax.out (by trivial)
            have hl1 : ((ec.length : Int) == 128) = true := by rw [a5]; rfl
            clear a5
            have hl2 : ((ex.length : Int) == 128) = true := by rw [b5]; rfl
            clear b5
            go_wp2_with fail
            go_ret
            exact ⟨by first | rfl | simp, Z⟩
          · subst ee ff
            obtain ⟨_, _, _, _, a5⟩ := Ac.out (by trivial)
            have hl1 : ((ec.length : Int) == 128) = true := by rw [a5]; rfl
            clear a5
            go_wp2_with fail
            go_ret
            exact ⟨by first | rfl | simp, Z⟩
          · subst ee ff
            obtain ⟨_, _, _, _, b5⟩ := Ax.out (by trivial)
            have hl2 : ((ex.length : Int) == 128) = true := by rw [b5]; rfl
            clear b5
            go_wp2_with fail
            go_ret
            exact ⟨by first | rfl | simp, Z⟩
          · subst ee ff
            go_wp2_with fail
            go_ret
            exact ⟨by first | rfl | simp, Z⟩
  · have Eh := Eh0
    clear Eh0 QQ SM Ek
    have hee : ((rh : Int) == 0) = false := by rw [ee]; rfl
    replace ee := Lib.hid ee
    go_wp2_with fail
    go_quiet (fail)
    clear hee
    go_upto_region 8 with fail
    refine wp_named2 (fun w7 hw7 => ?_)
    have H7 : Hid (Chg [] w5 w7) := by show Chg _ _ _; rw [hw7]; exact ((Chg.refl [] w5).drewN _).alloc _
    have LB : Hid (Blk w7 w5.heap.size 30 [.slice oh eh.length ph, .slice oc ec.length pc, .slice ox ex.length px]) := by show Blk _ _ _ _; rw [hw7]; exact Blk.made _ [.slice oh eh.length ph, .slice oc ec.length pc, .slice ox ex.length px] _
    clear hw7
    obtain ⟨lb, hlb⟩ : ∃ lb, lb = w5.heap.size := ⟨_, rfl⟩
    rw [← hlb] at LB ⊢
    clear hlb
    go_wp2_with fail
    go_loopw [18] (fun i wr => ∃ n : Nat, n ≤ 3 ∧ i = .int .i64 n ∧ Hid (Chg [] w7 wr)) (fun i _ => 3 - (intOf i).toNat)
    case atStart => exact ⟨0, Nat.zero_le _, rfl, Chg.refl _ _⟩
    case round =>
      obtain ⟨n, hn, rfl, C⟩ := hrel
      obtain rfl | rfl | rfl | rfl : n = 0 ∨ n = 1 ∨ n = 2 ∨ n = 3 := by omega
      · have l0 := (LB.out.chg C.out (by simp)).cell (j := 0) rfl
        rcases Eh with ee | ee
        · subst ee
          obtain ⟨a1, a2, a3, a4, a5⟩ := Ah.out (by trivial)
          have hl : ((eh.length : Int) == 0) = false := by rw [a5]; rfl
          replace a1 := Lib.hid a1
          replace a2 := Lib.hid a2
          replace a3 := Lib.hid a3
          replace a4 := Lib.hid a4
          clear a5
          have dd := Lib.hid (DH.out _ eh wr (sh.out _ (H7.out.trans C.out)) bh.out ch.out)
          rw [a1.out] at dd
          unfold Hd.val at dd
          generalize Hd.dval eh = dv0 at dd
          go_wp2_with fail
          refine dd.out.mono ?_
          rintro e w8 ⟨rfl, C'⟩
          have K0 := Lib.hid (C.out.trans C'.out)
          clear C' dd l0
          go_upto_region 13 with fail
          refine wp_named2 (fun w9 hw => ?_)
          have M0 : Hid (Chg [] w7 w9) := by show Chg _ _ _; rw [hw]; exact K0.out.alloc _
          clear hw K0
          have l1 := (LB.out.chg M0.out (by simp)).cell (j := 0) rfl
          have dd := Lib.hid (DC.out _ eh w9 (sh.out _ (H7.out.trans M0.out)) bh.out ch.out)
          rw [a2.out] at dd
          unfold Cm.val at dd
          generalize Cm.dval eh = dv1 at dd
          go_wp2_with fail
          refine dd.out.mono ?_
          rintro e w10 ⟨rfl, C'⟩
          have K1 := Lib.hid (M0.out.trans C'.out)
          clear C' dd l1
          go_upto_region 14 with fail
          refine wp_named2 (fun w11 hw => ?_)
          have M1 : Hid (Chg [] w7 w11) := by show Chg _ _ _; rw [hw]; exact K1.out.alloc _
          clear hw K1
          have l2 := (LB.out.chg M1.out (by simp)).cell (j := 0) rfl
          have dd := Lib.hid (DX.out _ eh w11 (sh.out _ (H7.out.trans M1.out)) bh.out ch.out)
          rw [a3.out] at dd
          unfold Ck.val at dd
          generalize Ck.dval eh = dv2 at dd
          go_wp2_with fail
          refine dd.out.mono ?_
          rintro e w12 ⟨rfl, C'⟩
          have K2 := Lib.hid (M1.out.trans C'.out)
          clear C' dd l2
          go_upto_region 15 with fail
          refine wp_named2 (fun w13 hw => ?_)
          have M2 : Hid (Chg [] w7 w13) := by show Chg _ _ _; rw [hw]; exact K2.out.alloc _
          clear hw K2
          have l3 := (LB.out.chg M2.out (by simp)).cell (j := 0) rfl
          have dd := Lib.hid (KI.out _ eh w13 (sh.out _ (H7.out.trans M2.out)) bh.out ch.out)
          rw [a4.out] at dd
          go_wp2_with fail
          refine dd.out.mono ?_
          rintro e wz ⟨rfl, rfl⟩
          go_wp2_with fail
          exact ⟨⟨1, by omega, rfl, M2⟩, by simp [intOf]⟩
        · subst ee
          have hl : ((eh.length : Int) == 0) = true := by rw [Nh.out (by trivial)]; rfl
          go_wp2_with fail
          exact ⟨⟨1, by omega, rfl, C⟩, by simp [intOf]⟩
      · have l0 := (LB.out.chg C.out (by simp)).cell (j := 1) rfl
        rcases Ec with ee | ee
        · subst ee
          obtain ⟨a1, a2, a3, a4, a5⟩ := Ac.out (by trivial)
          have hl : ((ec.length : Int) == 0) = false := by rw [a5]; rfl
          replace a1 := Lib.hid a1
          replace a2 := Lib.hid a2
          replace a3 := Lib.hid a3
          replace a4 := Lib.hid a4
          clear a5
          have dd := Lib.hid (DH.out _ ec wr (sc.out _ (H7.out.trans C.out)) bc.out cc.out)
          rw [a1.out] at dd
          unfold Hd.val at dd
          generalize Hd.dval ec = dv0 at dd
          go_wp2_with fail
          refine dd.out.mono ?_
          rintro e w8 ⟨rfl, C'⟩
          have K0 := Lib.hid (C.out.trans C'.out)
          clear C' dd l0
          go_upto_region 13 with fail
          refine wp_named2 (fun w9 hw => ?_)
          have M0 : Hid (Chg [] w7 w9) := by show Chg _ _ _; rw [hw]; exact K0.out.alloc _
          clear hw K0
          have l1 := (LB.out.chg M0.out (by simp)).cell (j := 1) rfl
          have dd := Lib.hid (DC.out _ ec w9 (sc.out _ (H7.out.trans M0.out)) bc.out cc.out)
          rw [a2.out] at dd
          unfold Cm.val at dd
          generalize Cm.dval ec = dv1 at dd
          go_wp2_with fail
          refine dd.out.mono ?_
          rintro e w10 ⟨rfl, C'⟩
          have K1 := Lib.hid (M0.out.trans C'.out)
          clear C' dd l1
          go_upto_region 14 with fail
          refine wp_named2 (fun w11 hw => ?_)
          have M1 : Hid (Chg [] w7 w11) := by show Chg _ _ _; rw [hw]; exact K1.out.alloc _
          clear hw K1
          have l2 := (LB.out.chg M1.out (by simp)).cell (j := 1) rfl
          have dd := Lib.hid (DX.out _ ec w11 (sc.out _ (H7.out.trans M1.out)) bc.out cc.out)
          rw [a3.out] at dd
          unfold Ck.val at dd
          generalize Ck.dval ec = dv2 at dd
          go_wp2_with fail
          refine dd.out.mono ?_
          rintro e w12 ⟨rfl, C'⟩
          have K2 := Lib.hid (M1.out.trans C'.out)
          clear C' dd l2
          go_upto_region 15 with fail
          refine wp_named2 (fun w13 hw => ?_)
          have M2 : Hid (Chg [] w7 w13) := by show Chg _ _ _; rw [hw]; exact K2.out.alloc _
          clear hw K2
          have l3 := (LB.out.chg M2.out (by simp)).cell (j := 1) rfl
          have dd := Lib.hid (KI.out _ ec w13 (sc.out _ (H7.out.trans M2.out)) bc.out cc.out)
          rw [a4.out] at dd
          go_wp2_with fail
          refine dd.out.mono ?_
          rintro e wz ⟨rfl, rfl⟩
          go_wp2_with fail
          exact ⟨⟨2, by omega, rfl, M2⟩, by simp [intOf]⟩
        · subst ee
          have hl : ((ec.length : Int) == 0) = true := by rw [Nc.out (by trivial)]; rfl
          go_wp2_with fail
          exact ⟨⟨2, by omega, rfl, C⟩, by simp [intOf]⟩
      · have l0 := (LB.out.chg C.out (by simp)).cell (j := 2) rfl
        rcases Ex with ee | ee
        · subst ee
          obtain ⟨a1, a2, a3, a4, a5⟩ := Ax.out (by trivial)
          have hl : ((ex.length : Int) == 0) = false := by rw [a5]; rfl
          replace a1 := Lib.hid a1
          replace a2 := Lib.hid a2
          replace a3 := Lib.hid a3
          replace a4 := Lib.hid a4
          clear a5
          have dd := Lib.hid (DH.out _ ex wr (sx.out _ (H7.out.trans C.out)) bx.out cx.out)
          rw [a1.out] at dd
          unfold Hd.val at dd
          generalize Hd.dval ex = dv0 at dd
          go_wp2_with fail
          refine dd.out.mono ?_
          rintro e w8 ⟨rfl, C'⟩
          have K0 := Lib.hid (C.out.trans C'.out)
          clear C' dd l0
          go_upto_region 13 with fail
          refine wp_named2 (fun w9 hw => ?_)
          have M0 : Hid (Chg [] w7 w9) := by show Chg _ _ _; rw [hw]; exact K0.out.alloc _
          clear hw K0
          have l1 := (LB.out.chg M0.out (by simp)).cell (j := 2) rfl
          have dd := Lib.hid (DC.out _ ex w9 (sx.out _ (H7.out.trans M0.out)) bx.out cx.out)
          rw [a2.out] at dd
          unfold Cm.val at dd
          generalize Cm.dval ex = dv1 at dd
          go_wp2_with fail
          refine dd.out.mono ?_
          rintro e w10 ⟨rfl, C'⟩
          have K1 := Lib.hid (M0.out.trans C'.out)
          clear C' dd l1
          go_upto_region 14 with fail
          refine wp_named2 (fun w11 hw => ?_)
          have M1 : Hid (Chg [] w7 w11) := by show Chg _ _ _; rw [hw]; exact K1.out.alloc _
          clear hw K1
          have l2 := (LB.out.chg M1.out (by simp)).cell (j := 2) rfl
          have dd := Lib.hid (DX.out _ ex w11 (sx.out _ (H7.out.trans M1.out)) bx.out cx.out)
          rw [a3.out] at dd
          unfold Ck.val at dd
          generalize Ck.dval ex = dv2 at dd
          go_wp2_with fail
          refine dd.out.mono ?_
          rintro e w12 ⟨rfl, C'⟩
          have K2 := Lib.hid (M1.out.trans C'.out)
          clear C' dd l2
          go_upto_region 15 with fail
          refine wp_named2 (fun w13 hw => ?_)
          have M2 : Hid (Chg [] w7 w13) := by show Chg _ _ _; rw [hw]; exact K2.out.alloc _
          clear hw K2
          have l3 := (LB.out.chg M2.out (by simp)).cell (j := 2) rfl
          have dd := Lib.hid (KI.out _ ex w13 (sx.out _ (H7.out.trans M2.out)) bx.out cx.out)
          rw [a4.out] at dd
          go_wp2_with fail
          refine dd.out.mono ?_
          rintro e wz ⟨rfl, rfl⟩
          go_wp2_with fail
          exact ⟨⟨3, by omega, rfl, M2⟩, by simp [intOf]⟩
        · subst ee
          have hl : ((ex.length : Int) == 0) = true := by rw [Nx.out (by trivial)]; rfl
          go_wp2_with fail
          exact ⟨⟨3, by omega, rfl, C⟩, by simp [intOf]⟩
      · go_wp2_with fail
        refine (KN.out _).mono ?_
        rintro e wz ⟨rfl, C'⟩
        have Z := Lib.hid (C1.out.trans (G.out.trans (H7.out.trans (C.out.trans C'.out))))
        clear C'
        rcases Ec with ee | ee <;> rcases Ex with ff | ff
        · subst ee ff
          obtain ⟨_, _, _, _, a5⟩ := Ac.out (by trivial)
          obtain ⟨_, _, _, _, b5⟩ := Ax.out (by trivial)
          have hl1 : ((ec.length : Int) == 128) = true := by rw [a5]; rfl
          clear a5
          have hl2 : ((ex.length : Int) == 128) = true := by rw [b5]; rfl
          clear b5
          go_wp2_with fail
          go_ret
          exact ⟨by first | rfl | simp, Z⟩
        · subst ee ff
          obtain ⟨_, _, _, _, a5⟩ := Ac.out (by trivial)
          have hl1 : ((ec.length : Int) == 128) = true := by rw [a5]; rfl
          clear a5
          go_wp2_with fail
          go_ret
          exact ⟨by first | rfl | simp, Z⟩
        · subst ee ff
          obtain ⟨_, _, _, _, b5⟩ := Ax.out (by trivial)
          have hl2 : ((ex.length : Int) == 128) = true := by rw [b5]; rfl
          clear b5
          go_wp2_with fail
          go_ret
          exact ⟨by first | rfl | simp, Z⟩
        · subst ee ff
          go_wp2_with fail
          go_ret
          exact ⟨by first | rfl | simp, Z⟩

theorem recordApart_walk (h k : Hd) (c : Cm) (x : Ck) (w : World) (fh : h.Fit) (fk : k.Fit) (fc : c.Fit) (fx : x.Fit) :
    Calls Try.prog 7 #[h.val, k.val, c.val, x.val] w fun e w' => e = .returned (.bool true) ∧ Chg [] w w' :=
  (recordApart_core h k c x w fh fk fc fx).mono fun _ _ h => ⟨h.1, h.2.out⟩


end Go.Proofs.Ytnjemjkjbeingaa