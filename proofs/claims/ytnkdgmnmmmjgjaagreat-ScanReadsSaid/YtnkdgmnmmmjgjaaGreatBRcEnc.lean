/-
  The document's Encodes of records. By an AI agent. Printed by gen_rcenc.py.
-/
import Derived.Test.YtnkdgmnmmmjgjaaGreatBRcPut
namespace Go.Proofs.YtnkdgmnmmmjgjaaGreat
open Go.RowKit Crc

set_option maxHeartbeats 8000000 in
set_option maxRecDepth 100000 in
theorem rEncodeCommit_any (h : Cm) (w : World) (hsm : h.sm < 4294967296) : Calls Tryz.prog 31 #[h.val] w (RcEncs w h.enc h.err) := by
  unfold RcEncs Cm.val
  have NU := Lib.hid (fun W => rnumbers_any h.ep h.sq W)
  have C1 : Hid (Chg [] w (w.alloc (.cells #[.int .u64 (h.ep : Int), .int .u64 (h.sq : Int), .int .i64 h.ct, .int .u32 (h.sm : Int)] 85))) := (Chg.refl _ w).alloc _
  have B1 : Hid (Blk (w.alloc (.cells #[.int .u64 (h.ep : Int), .int .u64 (h.sq : Int), .int .i64 h.ct, .int .u32 (h.sm : Int)] 85)) w.heap.size 85 [.int .u64 (h.ep : Int), .int .u64 (h.sq : Int), .int .i64 h.ct, .int .u32 (h.sm : Int)]) := Blk.made w _ _
  by_cases k0 : numsOk h.ep h.sq
  case neg =>
    rw [decide_eq_false k0] at NU
    have no : ¬ h.Ok := fun h => k0 h.1
    have er : h.err = 80 := by unfold Cm.err; rw [if_neg no]
    have en : h.enc = [] := by unfold Cm.enc; rw [if_neg no]
    rw [er, en]
    clear no er en
    go_enter Tryz.func31, Tryz.ntmps31
    go_wp2_with fail
    refine (NU.out _).mono ?_
    rintro e w1 ⟨rfl, rfl⟩
    go_wp2_with fail
    go_ret2
    exact ⟨_, rfl, World.ownsRow_nil _ _ _ _, C1.out⟩
  rw [decide_eq_true k0] at NU
  by_cases k1 : 1 ≤ h.ct
  case neg =>
    have no : ¬ h.Ok := fun h => k1 h.2.1
    have er : h.err = 80 := by unfold Cm.err; rw [if_neg no]
    have en : h.enc = [] := by unfold Cm.enc; rw [if_neg no]
    rw [er, en]
    clear no er en
    go_enter Tryz.func31, Tryz.ntmps31
    go_wp2_with fail
    refine (NU.out _).mono ?_
    rintro e w1 ⟨rfl, rfl⟩
    go_wp2_with fail
    go_ret2
    exact ⟨_, rfl, World.ownsRow_nil _ _ _ _, C1.out⟩
  by_cases k2 : h.ct ≤ 1023
  case neg =>
    have no : ¬ h.Ok := fun h => k2 h.2.2
    have er : h.err = 80 := by unfold Cm.err; rw [if_neg no]
    have en : h.enc = [] := by unfold Cm.enc; rw [if_neg no]
    rw [er, en]
    clear no er en
    go_enter Tryz.func31, Tryz.ntmps31
    go_wp2_with fail
    refine (NU.out _).mono ?_
    rintro e w1 ⟨rfl, rfl⟩
    go_wp2_with fail
    go_ret2
    exact ⟨_, rfl, World.ownsRow_nil _ _ _ _, C1.out⟩
  have yes : h.Ok := ⟨k0, k1, k2⟩
  have er : h.err = 0 := by unfold Cm.err; rw [if_pos yes]
  have en : h.enc = h.rec'.sector := by unfold Cm.enc; rw [if_pos yes]
  rw [er, en]
  clear er en yes
  obtain ⟨c, hc⟩ := Int.eq_ofNat_of_zero_le (show 0 ≤ h.ct by omega)
  have bc : c < 4294967296 := by omega
  replace hc := Lib.hid hc
  have fe : h.ep < 18446744073709551616 := by have := k0.1; omega
  have fs : h.sq < 18446744073709551616 := by have := k0.2.2; omega
  have s1 : (w.alloc (.cells #[.int .u64 (h.ep : Int), .int .u64 (h.sq : Int), .int .i64 h.ct, .int .u32 (h.sm : Int)] 85)).heap.size = w.heap.size + 1 := by simp
  clear k0
  go_enter Tryz.func31, Tryz.ntmps31
  go_wp2_with fail
  refine (NU.out _).mono ?_
  rintro e w1 ⟨rfl, rfl⟩
  clear NU
  go_wp2_with fail
  refine (rbegun_any 2 h.ep h.sq _ (by decide) fe fs).mono ?_
  obtain ⟨W0, hW0⟩ : ∃ W0, W0 = (w.alloc (.cells #[.int .u64 (h.ep : Int), .int .u64 (h.sq : Int), .int .i64 h.ct, .int .u32 (h.sm : Int)] 85)) := ⟨_, rfl⟩
  rw [← hW0] at C1 B1 s1 ⊢
  clear hW0
  rintro e W1 ⟨v1, rfl, X⟩
  obtain ⟨base, hbase⟩ : ∃ b, b = W0.heap.size := ⟨_, rfl⟩
  rw [← hbase] at X
  have hb0 : base ≤ W0.heap.size := Nat.le_of_eq hbase
  replace hbase := Lib.hid hbase
  have E := Lib.hid X.out
  clear X k1 k2
  have c2 := (B1.out.chg (show Chg [] W0 W1 from E.out.chg) (by simp)).cell (j := 2) rfl
  rw [hc.out] at c2
  go_wp2_with fail
  have hz : base ≤ W1.heap.size := Nat.le_trans hb0 E.out.chg.size
  refine (rput_any base _ _ c 4 W1 hz E.out.own (by decide) (by omega) (by simp [low_length, magicB])).mono ?_
  rintro e W2 ⟨v2, rfl, X⟩
  replace E := Lib.hid (E.out.trans X.out)
  clear X hz c2
  have c3 := (B1.out.chg (show Chg [] W0 W2 from E.out.chg) (by simp)).cell (j := 3) rfl
  go_wp2_with fail
  have hz : base ≤ W2.heap.size := Nat.le_trans hb0 E.out.chg.size
  refine (rput_any base _ _ h.sm 4 W2 hz E.out.own (by decide) (by omega) (by simp [low_length, magicB])).mono ?_
  rintro e W3 ⟨v3, rfl, X⟩
  replace E := Lib.hid (E.out.trans X.out)
  clear X hz c3
  have HY : magicB ++ low 4 2 ++ low 8 h.ep ++ low 8 h.sq ++ low 4 c ++ low 4 h.sm = h.rec'.begun ++ Rec.tail h.rec'.fs := by
    unfold Cm.rec'
    rw [hc.out]
    simp [Rec.begun, Rec.tail, magicB]
  have HB := Lib.hid (rec_body HY)
  have HS := rec_bs HY
  have hyl : (magicB ++ low 4 2 ++ low 8 h.ep ++ low 8 h.sq ++ low 4 c ++ low 4 h.sm).length ≤ 124 := by simp [low_length, magicB]
  clear HY
  go_wp2_with fail
  have hz : base ≤ W3.heap.size := Nat.le_trans hb0 E.out.chg.size
  refine (rended_any base _ _ W3 hz E.out.own hyl HS).mono ?_
  rintro e W9 ⟨v9, rfl, X⟩
  have Z := Lib.hid (E.out.trans X.out)
  clear X E hyl HS
  go_wp2_with fail
  go_ret2
  refine ⟨v9, rfl, ?_, C1.out.trans (show Chg [] W0 W9 from Z.out.chg)⟩
  have z := Z.out.own
  rw [HB.out] at z
  show World.ownsRow _ _ _ _ _ _ _
  exact ownsRow_base z (by rw [hbase.out, s1]; exact Nat.le_succ _)

set_option maxHeartbeats 8000000 in
set_option maxRecDepth 100000 in
theorem rEncodeHeader_any (h : Hd) (w : World) (hsm : h.sm < 4294967296) : Calls Tryz.prog 30 #[h.val] w (RcEncs w h.enc h.err) := by
  unfold RcEncs Hd.val
  have NU := Lib.hid (fun W => rnumbers_any h.ep h.sq W)
  have C1 : Hid (Chg [] w (w.alloc (.cells #[.int .u64 (h.ep : Int), .int .u64 (h.sq : Int), .int .i64 h.ix, .int .i64 h.ct, .int .i64 h.mb, .int .i64 h.rw', .bool h.esc, .int .u32 (h.sm : Int)] 81))) := (Chg.refl _ w).alloc _
  have B1 : Hid (Blk (w.alloc (.cells #[.int .u64 (h.ep : Int), .int .u64 (h.sq : Int), .int .i64 h.ix, .int .i64 h.ct, .int .i64 h.mb, .int .i64 h.rw', .bool h.esc, .int .u32 (h.sm : Int)] 81)) w.heap.size 81 [.int .u64 (h.ep : Int), .int .u64 (h.sq : Int), .int .i64 h.ix, .int .i64 h.ct, .int .i64 h.mb, .int .i64 h.rw', .bool h.esc, .int .u32 (h.sm : Int)]) := Blk.made w _ _
  by_cases k0 : numsOk h.ep h.sq
  case neg =>
    rw [decide_eq_false k0] at NU
    have no : ¬ h.Ok := fun h => k0 h.1
    have er : h.err = 80 := by unfold Hd.err; rw [if_neg no]
    have en : h.enc = [] := by unfold Hd.enc; rw [if_neg no]
    rw [er, en]
    clear no er en
    go_enter Tryz.func30, Tryz.ntmps30
    go_wp2_with fail
    refine (NU.out _).mono ?_
    rintro e w1 ⟨rfl, rfl⟩
    go_wp2_with fail
    go_ret2
    exact ⟨_, rfl, World.ownsRow_nil _ _ _ _, C1.out⟩
  rw [decide_eq_true k0] at NU
  by_cases k1 : 1 ≤ h.ct
  case neg =>
    have no : ¬ h.Ok := fun h => k1 h.2.1
    have er : h.err = 80 := by unfold Hd.err; rw [if_neg no]
    have en : h.enc = [] := by unfold Hd.enc; rw [if_neg no]
    rw [er, en]
    clear no er en
    go_enter Tryz.func30, Tryz.ntmps30
    go_wp2_with fail
    refine (NU.out _).mono ?_
    rintro e w1 ⟨rfl, rfl⟩
    go_wp2_with fail
    go_ret2
    exact ⟨_, rfl, World.ownsRow_nil _ _ _ _, C1.out⟩
  by_cases k2 : h.ct ≤ 1023
  case neg =>
    have no : ¬ h.Ok := fun h => k2 h.2.2.1
    have er : h.err = 80 := by unfold Hd.err; rw [if_neg no]
    have en : h.enc = [] := by unfold Hd.enc; rw [if_neg no]
    rw [er, en]
    clear no er en
    go_enter Tryz.func30, Tryz.ntmps30
    go_wp2_with fail
    refine (NU.out _).mono ?_
    rintro e w1 ⟨rfl, rfl⟩
    go_wp2_with fail
    go_ret2
    exact ⟨_, rfl, World.ownsRow_nil _ _ _ _, C1.out⟩
  by_cases k3 : 0 ≤ h.ix
  case neg =>
    have no : ¬ h.Ok := fun h => k3 h.2.2.2.1
    have er : h.err = 80 := by unfold Hd.err; rw [if_neg no]
    have en : h.enc = [] := by unfold Hd.enc; rw [if_neg no]
    rw [er, en]
    clear no er en
    go_enter Tryz.func30, Tryz.ntmps30
    go_wp2_with fail
    refine (NU.out _).mono ?_
    rintro e w1 ⟨rfl, rfl⟩
    go_wp2_with fail
    go_ret2
    exact ⟨_, rfl, World.ownsRow_nil _ _ _ _, C1.out⟩
  by_cases k4 : h.ix < h.ct
  case neg =>
    have no : ¬ h.Ok := fun h => k4 h.2.2.2.2.1
    have er : h.err = 80 := by unfold Hd.err; rw [if_neg no]
    have en : h.enc = [] := by unfold Hd.enc; rw [if_neg no]
    rw [er, en]
    clear no er en
    go_enter Tryz.func30, Tryz.ntmps30
    go_wp2_with fail
    refine (NU.out _).mono ?_
    rintro e w1 ⟨rfl, rfl⟩
    go_wp2_with fail
    go_ret2
    exact ⟨_, rfl, World.ownsRow_nil _ _ _ _, C1.out⟩
  by_cases k5 : 0 ≤ h.mb
  case neg =>
    have no : ¬ h.Ok := fun h => k5 h.2.2.2.2.2.1
    have er : h.err = 80 := by unfold Hd.err; rw [if_neg no]
    have en : h.enc = [] := by unfold Hd.enc; rw [if_neg no]
    rw [er, en]
    clear no er en
    go_enter Tryz.func30, Tryz.ntmps30
    go_wp2_with fail
    refine (NU.out _).mono ?_
    rintro e w1 ⟨rfl, rfl⟩
    go_wp2_with fail
    go_ret2
    exact ⟨_, rfl, World.ownsRow_nil _ _ _ _, C1.out⟩
  by_cases k6 : h.mb ≤ 15
  case neg =>
    have no : ¬ h.Ok := fun h => k6 h.2.2.2.2.2.2.1
    have er : h.err = 80 := by unfold Hd.err; rw [if_neg no]
    have en : h.enc = [] := by unfold Hd.enc; rw [if_neg no]
    rw [er, en]
    clear no er en
    go_enter Tryz.func30, Tryz.ntmps30
    go_wp2_with fail
    refine (NU.out _).mono ?_
    rintro e w1 ⟨rfl, rfl⟩
    go_wp2_with fail
    go_ret2
    exact ⟨_, rfl, World.ownsRow_nil _ _ _ _, C1.out⟩
  by_cases k7 : 0 ≤ h.rw'
  case neg =>
    have no : ¬ h.Ok := fun h => k7 h.2.2.2.2.2.2.2.1
    have er : h.err = 80 := by unfold Hd.err; rw [if_neg no]
    have en : h.enc = [] := by unfold Hd.enc; rw [if_neg no]
    rw [er, en]
    clear no er en
    go_enter Tryz.func30, Tryz.ntmps30
    go_wp2_with fail
    refine (NU.out _).mono ?_
    rintro e w1 ⟨rfl, rfl⟩
    go_wp2_with fail
    go_ret2
    exact ⟨_, rfl, World.ownsRow_nil _ _ _ _, C1.out⟩
  by_cases k8 : h.rw' ≤ 4095
  case neg =>
    have no : ¬ h.Ok := fun h => k8 h.2.2.2.2.2.2.2.2
    have er : h.err = 80 := by unfold Hd.err; rw [if_neg no]
    have en : h.enc = [] := by unfold Hd.enc; rw [if_neg no]
    rw [er, en]
    clear no er en
    go_enter Tryz.func30, Tryz.ntmps30
    go_wp2_with fail
    refine (NU.out _).mono ?_
    rintro e w1 ⟨rfl, rfl⟩
    go_wp2_with fail
    go_ret2
    exact ⟨_, rfl, World.ownsRow_nil _ _ _ _, C1.out⟩
  have yes : h.Ok := ⟨k0, k1, k2, k3, k4, k5, k6, k7, k8⟩
  have er : h.err = 0 := by unfold Hd.err; rw [if_pos yes]
  have en : h.enc = h.rec'.sector := by unfold Hd.enc; rw [if_pos yes]
  rw [er, en]
  clear er en yes
  obtain ⟨i, hi⟩ := Int.eq_ofNat_of_zero_le (show 0 ≤ h.ix by omega)
  obtain ⟨c, hc⟩ := Int.eq_ofNat_of_zero_le (show 0 ≤ h.ct by omega)
  obtain ⟨m, hm⟩ := Int.eq_ofNat_of_zero_le (show 0 ≤ h.mb by omega)
  obtain ⟨r, hr⟩ := Int.eq_ofNat_of_zero_le (show 0 ≤ h.rw' by omega)
  have bi : i < 4294967296 := by omega
  replace hi := Lib.hid hi
  have bc : c < 4294967296 := by omega
  replace hc := Lib.hid hc
  have bm : m < 4294967296 := by omega
  replace hm := Lib.hid hm
  have br : r < 4294967296 := by omega
  replace hr := Lib.hid hr
  have fe : h.ep < 18446744073709551616 := by have := k0.1; omega
  have fs : h.sq < 18446744073709551616 := by have := k0.2.2; omega
  have s1 : (w.alloc (.cells #[.int .u64 (h.ep : Int), .int .u64 (h.sq : Int), .int .i64 h.ix, .int .i64 h.ct, .int .i64 h.mb, .int .i64 h.rw', .bool h.esc, .int .u32 (h.sm : Int)] 81)).heap.size = w.heap.size + 1 := by simp
  clear k0
  go_enter Tryz.func30, Tryz.ntmps30
  go_wp2_with fail
  refine (NU.out _).mono ?_
  rintro e w1 ⟨rfl, rfl⟩
  clear NU
  go_wp2_with fail
  refine (rbegun_any 1 h.ep h.sq _ (by decide) fe fs).mono ?_
  obtain ⟨W0, hW0⟩ : ∃ W0, W0 = (w.alloc (.cells #[.int .u64 (h.ep : Int), .int .u64 (h.sq : Int), .int .i64 h.ix, .int .i64 h.ct, .int .i64 h.mb, .int .i64 h.rw', .bool h.esc, .int .u32 (h.sm : Int)] 81)) := ⟨_, rfl⟩
  rw [← hW0] at C1 B1 s1 ⊢
  clear hW0
  rintro e W1 ⟨v1, rfl, X⟩
  obtain ⟨base, hbase⟩ : ∃ b, b = W0.heap.size := ⟨_, rfl⟩
  rw [← hbase] at X
  have hb0 : base ≤ W0.heap.size := Nat.le_of_eq hbase
  replace hbase := Lib.hid hbase
  have E := Lib.hid X.out
  clear X k1 k2 k3 k4 k5 k6 k7 k8
  have c2 := (B1.out.chg (show Chg [] W0 W1 from E.out.chg) (by simp)).cell (j := 2) rfl
  rw [hi.out] at c2
  go_wp2_with fail
  have hz : base ≤ W1.heap.size := Nat.le_trans hb0 E.out.chg.size
  refine (rput_any base _ _ i 4 W1 hz E.out.own (by decide) (by omega) (by simp [low_length, magicB])).mono ?_
  rintro e W2 ⟨v2, rfl, X⟩
  replace E := Lib.hid (E.out.trans X.out)
  clear X hz c2
  have c3 := (B1.out.chg (show Chg [] W0 W2 from E.out.chg) (by simp)).cell (j := 3) rfl
  rw [hc.out] at c3
  go_wp2_with fail
  have hz : base ≤ W2.heap.size := Nat.le_trans hb0 E.out.chg.size
  refine (rput_any base _ _ c 4 W2 hz E.out.own (by decide) (by omega) (by simp [low_length, magicB])).mono ?_
  rintro e W3 ⟨v3, rfl, X⟩
  replace E := Lib.hid (E.out.trans X.out)
  clear X hz c3
  have c4 := (B1.out.chg (show Chg [] W0 W3 from E.out.chg) (by simp)).cell (j := 4) rfl
  rw [hm.out] at c4
  go_wp2_with fail
  have hz : base ≤ W3.heap.size := Nat.le_trans hb0 E.out.chg.size
  refine (rput_any base _ _ m 4 W3 hz E.out.own (by decide) (by omega) (by simp [low_length, magicB])).mono ?_
  rintro e W4 ⟨v4, rfl, X⟩
  replace E := Lib.hid (E.out.trans X.out)
  clear X hz c4
  have c5 := (B1.out.chg (show Chg [] W0 W4 from E.out.chg) (by simp)).cell (j := 5) rfl
  rw [hr.out] at c5
  go_wp2_with fail
  have hz : base ≤ W4.heap.size := Nat.le_trans hb0 E.out.chg.size
  refine (rput_any base _ _ r 4 W4 hz E.out.own (by decide) (by omega) (by simp [low_length, magicB])).mono ?_
  rintro e W5 ⟨v5, rfl, X⟩
  replace E := Lib.hid (E.out.trans X.out)
  clear X hz c5
  have c6 := (B1.out.chg (show Chg [] W0 W5 from E.out.chg) (by simp)).cell (j := 6) rfl
  rcases hes : h.esc with _ | _
  all_goals rw [hes] at c6
  all_goals replace hes := Lib.hid hes
  case false =>
    go_wp2_with fail
    have hz : base ≤ W5.heap.size := Nat.le_trans hb0 E.out.chg.size
    refine (rput_any base _ _ 0 4 W5 hz E.out.own (by decide) (by decide) (by simp [low_length, magicB])).mono ?_
    rintro e W6 ⟨v6, rfl, X⟩
    replace E := Lib.hid (E.out.trans X.out)
    clear X hz c6
    have c7 := (B1.out.chg (show Chg [] W0 W6 from E.out.chg) (by simp)).cell (j := 7) rfl
    go_wp2_with fail
    have hz : base ≤ W6.heap.size := Nat.le_trans hb0 E.out.chg.size
    refine (rput_any base _ _ h.sm 4 W6 hz E.out.own (by decide) (by omega) (by simp [low_length, magicB])).mono ?_
    rintro e W7 ⟨v7, rfl, X⟩
    replace E := Lib.hid (E.out.trans X.out)
    clear X hz c7
    have HY : magicB ++ low 4 1 ++ low 8 h.ep ++ low 8 h.sq ++ low 4 i ++ low 4 c ++ low 4 m ++ low 4 r ++ low 4 0 ++ low 4 h.sm = h.rec'.begun ++ Rec.tail h.rec'.fs := by
      unfold Hd.rec'
      rw [hi.out, hc.out, hm.out, hr.out, hes.out]
      simp [Rec.begun, Rec.tail, magicB]
    have HB := Lib.hid (rec_body HY)
    have HS := rec_bs HY
    have hyl : (magicB ++ low 4 1 ++ low 8 h.ep ++ low 8 h.sq ++ low 4 i ++ low 4 c ++ low 4 m ++ low 4 r ++ low 4 0 ++ low 4 h.sm).length ≤ 124 := by simp [low_length, magicB]
    clear HY
    go_wp2_with fail
    have hz : base ≤ W7.heap.size := Nat.le_trans hb0 E.out.chg.size
    refine (rended_any base _ _ W7 hz E.out.own hyl HS).mono ?_
    rintro e W9 ⟨v9, rfl, X⟩
    have Z := Lib.hid (E.out.trans X.out)
    clear X E hyl HS
    go_wp2_with fail
    go_ret2
    refine ⟨v9, rfl, ?_, C1.out.trans (show Chg [] W0 W9 from Z.out.chg)⟩
    have z := Z.out.own
    rw [HB.out] at z
    show World.ownsRow _ _ _ _ _ _ _
    exact ownsRow_base z (by rw [hbase.out, s1]; exact Nat.le_succ _)
  case true =>
    go_wp2_with fail
    have hz : base ≤ W5.heap.size := Nat.le_trans hb0 E.out.chg.size
    refine (rput_any base _ _ 1 4 W5 hz E.out.own (by decide) (by decide) (by simp [low_length, magicB])).mono ?_
    rintro e W6 ⟨v6, rfl, X⟩
    replace E := Lib.hid (E.out.trans X.out)
    clear X hz c6
    have c7 := (B1.out.chg (show Chg [] W0 W6 from E.out.chg) (by simp)).cell (j := 7) rfl
    go_wp2_with fail
    have hz : base ≤ W6.heap.size := Nat.le_trans hb0 E.out.chg.size
    refine (rput_any base _ _ h.sm 4 W6 hz E.out.own (by decide) (by omega) (by simp [low_length, magicB])).mono ?_
    rintro e W7 ⟨v7, rfl, X⟩
    replace E := Lib.hid (E.out.trans X.out)
    clear X hz c7
    have HY : magicB ++ low 4 1 ++ low 8 h.ep ++ low 8 h.sq ++ low 4 i ++ low 4 c ++ low 4 m ++ low 4 r ++ low 4 1 ++ low 4 h.sm = h.rec'.begun ++ Rec.tail h.rec'.fs := by
      unfold Hd.rec'
      rw [hi.out, hc.out, hm.out, hr.out, hes.out]
      simp [Rec.begun, Rec.tail, magicB]
    have HB := Lib.hid (rec_body HY)
    have HS := rec_bs HY
    have hyl : (magicB ++ low 4 1 ++ low 8 h.ep ++ low 8 h.sq ++ low 4 i ++ low 4 c ++ low 4 m ++ low 4 r ++ low 4 1 ++ low 4 h.sm).length ≤ 124 := by simp [low_length, magicB]
    clear HY
    go_wp2_with fail
    have hz : base ≤ W7.heap.size := Nat.le_trans hb0 E.out.chg.size
    refine (rended_any base _ _ W7 hz E.out.own hyl HS).mono ?_
    rintro e W9 ⟨v9, rfl, X⟩
    have Z := Lib.hid (E.out.trans X.out)
    clear X E hyl HS
    go_wp2_with fail
    go_ret2
    refine ⟨v9, rfl, ?_, C1.out.trans (show Chg [] W0 W9 from Z.out.chg)⟩
    have z := Z.out.own
    rw [HB.out] at z
    show World.ownsRow _ _ _ _ _ _ _
    exact ownsRow_base z (by rw [hbase.out, s1]; exact Nat.le_succ _)

end Go.Proofs.YtnkdgmnmmmjgjaaGreat
