/-
  VoteGuide. By an AI agent.
-/
import Derived.Test.YtffpjefecmkfmaaBVtSv
import Derived.Test.YtffpjefecmkfmaaBGAppend
import Derived.Deep.CutBlock
namespace Go.Proofs.Ytffpjefecmkfmaa
open Go.RowKit

theorem size_bal : (Try.prog.info? 39).map (·.size) = some 13 := by kernel_rfl

set_option maxHeartbeats 16000000 in
set_option maxRecDepth 100000 in
theorem voteGuide_core (lv : Value) (ds : List BalD) (w : World) (hv : Bals w lv ds) : Calls Try.prog 6 #[lv] w fun e w' => e = .returned (.bool true) ∧ Hid (Chg [] w w') := by
  have HV := Lib.hid hv
  have MU := Lib.hid (much_any lv ds w hv)
  obtain ⟨i0, ki, kz0, kz1, kz2⟩ := info_parts info_bal
  replace ki := Lib.hid ki
  replace kz0 := Lib.hid kz0
  replace kz1 := Lib.hid kz1
  replace kz2 := Lib.hid kz2
  obtain ⟨s0, si, sz0, sz1, sz2⟩ := info_parts info_state
  replace si := Lib.hid si
  replace sz0 := Lib.hid sz0
  replace sz1 := Lib.hid sz1
  replace sz2 := Lib.hid sz2
  have hlen := hv.len
  obtain ⟨vo, vc, rfl⟩ := hv.slice
  clear hv
  obtain ⟨n, hn⟩ : ∃ n, n = ds.length := ⟨_, rfl⟩
  rw [← hn] at MU hlen HV ⊢
  have HN := Lib.hid hn
  clear hn
  have hn0 : (0 : Int) ≤ n := Int.natCast_nonneg _
  go_enter Try.func6, Try.ntmps6
  go_wp2_with fail
  refine MU.out.mono ?_
  rintro e w1 ⟨bm, rfl, hmu, rfl⟩
  clear MU
  cases bm with
  | true =>
    go_wp2_with fail
    go_ret
    exact ⟨rfl, Chg.refl _ _⟩
  | false =>
  clear hmu
  by_cases h4 : (n : Int) < 4
  · go_wp2_with fail
    go_ret
    exact ⟨rfl, Chg.refl _ _⟩
  by_cases h17 : (17 : Int) < n
  · go_wp2_with fail
    go_ret
    exact ⟨rfl, Chg.refl _ _⟩
  have HAS : Hid (∀ j, j < n → ∃ d, ds[j]? = some d) := fun j hj => ⟨_, List.getElem?_eq_getElem (by have := HN.out; omega)⟩
  obtain ⟨N1, hN1⟩ : ∃ N1 : Nat, N1 = n - 1 := ⟨_, rfl⟩
  have hN1e : (n : Int) - 1 = (N1 : Int) := by omega
  have hN10 : (0 : Int) ≤ N1 := Int.natCast_nonneg _
  have hN1n : (N1 : Int) < n := by omega
  have hW1 : IntKind.i64.wrap ((n : Int) - 1) = (N1 : Int) ∧ wrap64 ((n : Int) - 1) = (N1 : Int) := by
    constructor
    · rw [IntKind.wrap_i64]; omega
    · unfold wrap64; omega
  obtain ⟨dj, hdj⟩ := HAS.out N1 (by omega)
  have HDJ : Hid (ds[n - 1]? = some dj) := by show _ = _; rw [← hN1]; exact hdj
  obtain ⟨b, o, e0, hb, BI⟩ := HV.out.at hdj
  obtain rfl : vo = some ⟨b, o, none⟩ := e0
  have BAT : Hid (∀ (i : Nat) d, ds[i]? = some d → ∀ W, Chg [] w W → BalIn W b (o + i * 13) d) := fun i d hi W c => by
    obtain ⟨b', o', e1, hb', q⟩ := HV.out.at hi
    obtain ⟨rfl, rfl⟩ : b = b' ∧ o = o' := by simpa using e1
    exact q.chg hb' c
  obtain ⟨m0, m1, m2, m3, m4, m5, m6, m7, m8, m9, m10, m11, m12⟩ := BI.at13
  obtain ⟨yo, yc, hy⟩ := BI.sl.slice
  rw [hy] at m11
  have SLj := Lib.hid BI.sl
  rw [hy] at SLj
  have BGj := BI.big
  have FTj := Lib.hid BI.fit
  replace hN1 := Lib.hid hN1
  replace hN1e := Lib.hid hN1e
  clear BI hy hdj
  obtain ⟨w3, hw3⟩ : ∃ w3, w3 = w.alloc (.cells #[.bool dj.has, .int .u64 (dj.s.id : Int), .int .u64 (dj.s.ev : Int), .int .u64 (dj.s.safe : Int), .int .i64 dj.s.role, .int .i64 dj.s.m, .int .i64 dj.s.c, .int .i64 dj.s.t, .int .i64 dj.s.ring, .bool dj.s.lazy, .bool dj.s.lost, .slice yo dj.s.st.length yc, .int .i64 dj.s.cur] 39) := ⟨_, rfl⟩
  have BJ : Hid (Blk w3 w.heap.size 39 [.bool dj.has, .int .u64 (dj.s.id : Int), .int .u64 (dj.s.ev : Int), .int .u64 (dj.s.safe : Int), .int .i64 dj.s.role, .int .i64 dj.s.m, .int .i64 dj.s.c, .int .i64 dj.s.t, .int .i64 dj.s.ring, .bool dj.s.lazy, .bool dj.s.lost, .slice yo dj.s.st.length yc, .int .i64 dj.s.cur]) := by show Blk _ _ _ _; rw [hw3]; exact Blk.made w _ _
  have C3 : Hid (Chg [] w w3) := by show Chg _ _ _; rw [hw3]; exact (Chg.refl _ _).alloc _
  have RK := Lib.hid (refCheck_any dj.s _ w3 (SLj.out.chg C3.out (by simp)) FTj.out.st BGj)
  unfold Sup.val at RK
  replace hw3 := Lib.hid hw3
  have hr17 : (n : Int) ≤ 17 := by omega
  have hr4 : (4 : Int) ≤ n := by omega
  have HW1 := Lib.hid hW1
  go_upto_region 4 with fail
  rw [← hw3.out]
  clear hw3 m0 m1 m2 m3 m4 m5 m6 m7 m8 m9 m10 m11 m12 hW1
  have hW1 := HW1.out
  generalize hgJ : w.heap.size = gJ at *
  have NJ0 : Hid (gJ < w3.heap.size) := BJ.out.lt
  have j0 := BJ.out.cell (j := 0) rfl
  have j1 := BJ.out.cell (j := 1) rfl
  have j2 := BJ.out.cell (j := 2) rfl
  have j3 := BJ.out.cell (j := 3) rfl
  have j4 := BJ.out.cell (j := 4) rfl
  have j5 := BJ.out.cell (j := 5) rfl
  have j6 := BJ.out.cell (j := 6) rfl
  have j7 := BJ.out.cell (j := 7) rfl
  have j8 := BJ.out.cell (j := 8) rfl
  have j9 := BJ.out.cell (j := 9) rfl
  have j10 := BJ.out.cell (j := 10) rfl
  have j11 := BJ.out.cell (j := 11) rfl
  have j12 := BJ.out.cell (j := 12) rfl
  by_cases hjh0 : dj.has = true
  case neg =>
    have hjh1 : dj.has = false := by simpa using hjh0
    rw [hjh1] at j0
    have CX0 := C3.out
    clear RK hjh0 hjh1
    have KW := Lib.hid (known_any w3)
    go_wp2_with fail
    refine KW.out.mono ?_
    rintro e wk ⟨rfl, CK⟩
    have CC := Lib.hid (CX0.trans CK.out)
    clear KW CK
    go_wp2_with fail
    go_ret
    exact ⟨rfl, CC⟩
  rw [hjh0] at BJ j0
  have hjh : Hid (dj.has = true) := hjh0
  clear hjh0
  go_wp2_with fail
  refine RK.out.mono ?_
  rintro e w4 ⟨rfl, C34⟩
  have C4 := Lib.hid (C3.out.trans C34.out)
  have BJ4 := Lib.hid (BJ.out.chg C34.out (by simp))
  have NJ4 : Hid (gJ < w4.heap.size) := BJ4.out.lt
  clear RK BJ j0 j1 j2 j3 j4 j5 j6 j7 j8 j9 j10 j11 j12 C3 C34 NJ0
  have k4 := BJ4.out.cell (j := 4) rfl
  have k5 := BJ4.out.cell (j := 5) rfl
  have EE : dj.s.err = if dj.s.Ok then 0 else 70 := rfl
  by_cases hok : dj.s.Ok
  case neg =>
    rw [if_neg hok] at EE
    rw [EE]
    have CX0 := C4.out
    clear EE hok
    have KW := Lib.hid (known_any w4)
    go_wp2_with fail
    refine KW.out.mono ?_
    rintro e wk ⟨rfl, CK⟩
    have CC := Lib.hid (CX0.trans CK.out)
    clear KW CK
    go_wp2_with fail
    go_ret
    exact ⟨rfl, CC⟩
  rw [if_pos hok] at EE
  rw [EE]
  have HOJ := Lib.hid hok
  clear EE hok
  by_cases hrl : dj.s.role = (N1 : Int)
  case neg =>
    have CX0 := C4.out
    have KW := Lib.hid (known_any w4)
    go_wp2_with fail
    refine KW.out.mono ?_
    rintro e wk ⟨rfl, CK⟩
    have CC := Lib.hid (CX0.trans CK.out)
    clear KW CK
    go_wp2_with fail
    go_ret
    exact ⟨rfl, CC⟩
  by_cases hmm : dj.s.m = (N1 : Int)
  case neg =>
    have CX0 := C4.out
    have KW := Lib.hid (known_any w4)
    go_wp2_with fail
    refine KW.out.mono ?_
    rintro e wk ⟨rfl, CK⟩
    have CC := Lib.hid (CX0.trans CK.out)
    clear KW CK
    go_wp2_with fail
    go_ret
    exact ⟨rfl, CC⟩
  have FINE : Hid (Vt.fine dj (n - 1) n = true) := by
    show _ = _
    unfold Vt.fine
    have e1 := hN1.out
    rw [hjh.out, decide_eq_true HOJ.out, decide_eq_true (show dj.s.m = (n : Int) - 1 by omega), decide_eq_true (show dj.s.role = ((n - 1 : Nat) : Int) by omega)]
    rfl
  have hst3 : 3 ≤ dj.s.st.length ∧ dj.s.st.length ≤ 16 := by
    have q1 := HOJ.out.1.1
    have q2 := HOJ.out.1.2.1
    have q3 := HOJ.out.2.1.2.2.2.2.2.2.2.2
    omega
  have SLj4 := Lib.hid (SLj.out.chg C4.out (by simp))
  have BN : Hid (GRel ds n dj.s []) := GRel.nil ds n dj.s
  have C4n : Hid (Chg [] w w4) := C4.out
  have hn17 : n ≤ 17 := by omega
  have hn4 : 4 ≤ n := by omega
  go_upto_region 6 with fail
  replace hrl := Lib.hid hrl
  replace hmm := Lib.hid hmm
  clear k4 k5 hW1
  have MKR : Hid (∀ W, Chg [] w4 W → ARow w4 W (.slice none 0 0) []) := fun W c => ARow.nil c
  go_wp2_with fail
  go_loopw [5, 4] (fun i v wr => ∃ (j : Nat) (mz : List BalD), j ≤ n ∧ i = .int .i64 (j : Int) ∧ Hid (mz.length = j) ∧ Hid (ARow w4 wr v mz) ∧ Hid (GRel ds n dj.s mz)) (fun i _ _ => n - (intOf i).toNat)
  case atStart => exact ⟨0, [], Nat.zero_le _, rfl, rfl, MKR.out _ (Chg.refl _ _), BN⟩
  case round =>
    obtain ⟨j, mz, hj, rfl, LZ, R, RL⟩ := hrel
    clear BN MKR
    have hj0 : (0 : Int) ≤ j := Int.natCast_nonneg _
    obtain ⟨mo, mc, rfl⟩ := R.out.slice
    have BJr := Lib.hid (BJ4.out.chg R.out.ch (by simp))
    have NJ : Hid (gJ ≠ wr.heap.size) := by show _ ≠ _; have := BJr.out.lt; omega
    by_cases hlt : j < n
    · have hj1 : (j : Int) < n := by omega
      have hj17 : (j : Int) ≤ 17 := by omega
      obtain ⟨d, hd⟩ := HAS.out j hlt
      have BI := BAT.out j d hd wr (C4n.out.trans R.out.ch)
      obtain ⟨m0, m1, m2, m3, m4, m5, m6, m7, m8, m9, m10, m11, m12⟩ := BI.at13
      obtain ⟨uo, uc, hu⟩ := BI.sl.slice
      rw [hu] at m11
      have SLd := Lib.hid (BAT.out j d hd w4 C4n.out).sl
      rw [hu] at SLd
      have BGd := BI.big
      have FTd := Lib.hid BI.fit
      have FTT : Hid (∀ LO : Bool, ({ d.s with st := dj.s.st, cur := dj.s.cur, safe := 1, lost := LO } : Sup).Fit) := fun LO => ⟨FTd.out.id, FTd.out.ev, by show (1 : Nat) < _; decide, FTd.out.role, FTd.out.m, FTd.out.c, FTd.out.t, FTd.out.ring, FTj.out.cur, FTj.out.st⟩
      clear BI hu
      obtain ⟨wC, hwC⟩ : ∃ wC, wC = wr.alloc (.cells #[.bool d.has, .int .u64 (d.s.id : Int), .int .u64 (d.s.ev : Int), .int .u64 (d.s.safe : Int), .int .i64 d.s.role, .int .i64 d.s.m, .int .i64 d.s.c, .int .i64 d.s.t, .int .i64 d.s.ring, .bool d.s.lazy, .bool d.s.lost, .slice uo d.s.st.length uc, .int .i64 d.s.cur] 39) := ⟨_, rfl⟩
      have B5 : Hid (Blk wC wr.heap.size 39 [.bool d.has, .int .u64 (d.s.id : Int), .int .u64 (d.s.ev : Int), .int .u64 (d.s.safe : Int), .int .i64 d.s.role, .int .i64 d.s.m, .int .i64 d.s.c, .int .i64 d.s.t, .int .i64 d.s.ring, .bool d.s.lazy, .bool d.s.lost, .slice uo d.s.st.length uc, .int .i64 d.s.cur]) := by show Blk _ _ _ _; rw [hwC]; exact Blk.made wr _ _
      have C5 : Hid (Chg [] wr wC) := by show Chg _ _ _; rw [hwC]; exact (Chg.refl _ _).alloc _
      have RK := Lib.hid (refCheck_any d.s _ wC (SLd.out.chg (R.out.ch.trans C5.out) (by simp)) FTd.out.st BGd)
      replace hwC := Lib.hid hwC
      unfold Sup.val at RK
      go_wp2_with fail
      rw [← hwC.out]
      refine RK.out.mono ?_
      rintro e wq ⟨rfl, Cq⟩
      have BQ := Lib.hid (B5.out.chg Cq.out (by simp))
      have CQ := Lib.hid (C5.out.trans Cq.out)
      have BJq := Lib.hid (BJr.out.chg CQ.out (by simp))
      have SJq := Lib.hid (SLj4.out.chg (R.out.ch.trans CQ.out) (by simp))
      clear RK B5 C5 Cq hwC m0 m1 m2 m3 m4 m5 m6 m7 m8 m9 m10 m11 m12 BJr
      clear wC
      have EE : d.s.err = if d.s.Ok then 0 else 70 := rfl
      by_cases hok : d.s.Ok
      case neg =>
        rw [if_neg hok] at EE
        rw [EE]
        clear EE hok FTT BJq SJq
        go_upto_region 12 with fail
        have RC := Lib.hid (R.out.chg CQ.out)
        have y0 := BQ.out.cell (j := 0) rfl
        have y1 := BQ.out.cell (j := 1) rfl
        have y2 := BQ.out.cell (j := 2) rfl
        have y3 := BQ.out.cell (j := 3) rfl
        have y4 := BQ.out.cell (j := 4) rfl
        have y5 := BQ.out.cell (j := 5) rfl
        have y6 := BQ.out.cell (j := 6) rfl
        have y7 := BQ.out.cell (j := 7) rfl
        have y8 := BQ.out.cell (j := 8) rfl
        have y9 := BQ.out.cell (j := 9) rfl
        have y10 := BQ.out.cell (j := 10) rfl
        have y11 := BQ.out.cell (j := 11) rfl
        have y12 := BQ.out.cell (j := 12) rfl
        clear R BQ CQ
        generalize wr.heap.size = g6 at *
        obtain ⟨wX, hwX⟩ : ∃ wX, wX = wq.alloc (.cells #[.bool d.has, .int .u64 (d.s.id : Int), .int .u64 (d.s.ev : Int), .int .u64 (d.s.safe : Int), .int .i64 d.s.role, .int .i64 d.s.m, .int .i64 d.s.c, .int .i64 d.s.t, .int .i64 d.s.ring, .bool d.s.lazy, .bool d.s.lost, .slice uo d.s.st.length uc, .int .i64 d.s.cur] 39) := ⟨_, rfl⟩
        have CX : Chg [] wq wX := by rw [hwX]; exact (Chg.refl _ _).alloc _
        have BX : Blk wX wq.heap.size 39 (BalD.cells ⟨d.has, d.s, .slice uo d.s.st.length uc⟩) := by rw [hwX]; exact Blk.made wq _ _
        have RA := RC.out.chg CX
        have FIN : Hid (∀ v' w', w'.ownsRow w4.heap.size 39 13 v' (mz.length + 1) (flat13 mz ++ (BalD.cells ⟨d.has, d.s, .slice uo d.s.st.length uc⟩)) → wX.grownBy w' (Value.slice mo mz.length mc).ownBlock → (v'.ownBlock = (Value.slice mo mz.length mc).ownBlock ∨ (v'.ownBlock = some wX.heap.size ∧ wX.grownBy w' none)) → ARow w4 w' v' (mz ++ [⟨d.has, d.s, .slice uo d.s.st.length uc⟩])) := fun v' w' o g hv => RA.app (ASt.arg SLd.out BGd FTd.out RA.ch RA.row) o g hv
        have OWN : Hid (wX.ownsRow w4.heap.size 39 13 (.slice mo mz.length mc) mz.length (flat13 mz)) := RA.row
        have NW : Hid (∀ (q : Nat) u, (BalD.cells ⟨d.has, d.s, .slice uo d.s.st.length uc⟩)[q]? = some u → wX.cell? ((⟨wq.heap.size, 0, none⟩ : Addr).add q) = some u) := fun q u hu => by
          have e : (⟨wq.heap.size, 0, none⟩ : Addr).add q = ⟨wq.heap.size, q, none⟩ := by rw [Addr.add_lit, Nat.zero_add]
          rw [e]
          exact BX.cell hu
        have ONE : Hid (∀ u ∈ (BalD.cells ⟨d.has, d.s, .slice uo d.s.st.length uc⟩), u.oneCell' = true) := by
          intro u hu
          simp only [BalD.cells, List.mem_cons, List.not_mem_nil, or_false] at hu
          rcases hu with rfl | rfl | rfl | rfl | rfl | rfl | rfl | rfl | rfl | rfl | rfl | rfl | rfl <;> rfl
        have SZ : Hid (w4.heap.size ≤ wX.heap.size) := RA.ch.size
        have hmz : mz.length ≤ 10000 := by have := LZ.out; omega
        replace hwX := Lib.hid hwX
        clear RC RA CX BX
        go_wp2_with (at_builtin; rw [← hwX.out]; refine wpList_append_three _ rfl _ _ 22 rfl w4.heap.size 39 i0 _ 13 112 Try.underlying22 ki.out kz0.out kz1.out kz2.out rfl (by decide) _ mz.length (flat13 mz) rfl OWN.out ⟨wq.heap.size, 0, none⟩ 1 1 (BalD.cells ⟨d.has, d.s, .slice uo d.s.st.length uc⟩) rfl rfl NW.out ONE.out (by unfold maxLen; omega) (by omega) SZ.out ?_; intro v' w' O1 G1 V1; have R2 := Lib.hid (FIN.out v' w' O1.out G1.out V1.out); clear O1 G1 V1 FIN OWN NW ONE SZ)
        have RL2 : Hid (GRel ds n dj.s (mz ++ [⟨d.has, d.s, .slice uo d.s.st.length uc⟩])) := RL.out.push hd LZ.out rfl (.inl rfl)
        exact ⟨⟨j + 1, mz ++ [⟨d.has, d.s, .slice uo d.s.st.length uc⟩], by omega, by go_num, (by show _ = _; simp [LZ.out]), R2, RL2⟩, by simp [intOf]; omega⟩
      rw [if_pos hok] at EE
      rw [EE]
      have HOK := Lib.hid hok
      clear EE hok
      have k5 := BQ.out.cell (j := 5) rfl
      have k6 := BQ.out.cell (j := 6) rfl
      have k7 := BQ.out.cell (j := 7) rfl
      have t5 := BJq.out.cell (j := 5) rfl
      have t6 := BJq.out.cell (j := 6) rfl
      have t7 := BJq.out.cell (j := 7) rfl
      have GN := fun W => geo_ne d.s.m d.s.c d.s.t dj.s.m dj.s.c dj.s.t W
      by_cases hge : d.s.m = dj.s.m ∧ d.s.c = dj.s.c ∧ d.s.t = dj.s.t
      case neg =>
        have hgb : (!(d.s.m == dj.s.m && d.s.c == dj.s.c && d.s.t == dj.s.t)) = true := by
          cases hx : (d.s.m == dj.s.m && d.s.c == dj.s.c && d.s.t == dj.s.t) with
          | false => rfl
          | true =>
            simp only [Bool.and_eq_true, beq_iff_eq] at hx
            exact absurd ⟨hx.1.1, hx.1.2, hx.2⟩ hge
        rw [hgb] at GN
        clear hge hgb HOK FTT
        go_upto_region 12 with fail
        clear k5 k6 k7 t5 t6 t7 GN BJq SJq
        have RC := Lib.hid (R.out.chg CQ.out)
        have y0 := BQ.out.cell (j := 0) rfl
        have y1 := BQ.out.cell (j := 1) rfl
        have y2 := BQ.out.cell (j := 2) rfl
        have y3 := BQ.out.cell (j := 3) rfl
        have y4 := BQ.out.cell (j := 4) rfl
        have y5 := BQ.out.cell (j := 5) rfl
        have y6 := BQ.out.cell (j := 6) rfl
        have y7 := BQ.out.cell (j := 7) rfl
        have y8 := BQ.out.cell (j := 8) rfl
        have y9 := BQ.out.cell (j := 9) rfl
        have y10 := BQ.out.cell (j := 10) rfl
        have y11 := BQ.out.cell (j := 11) rfl
        have y12 := BQ.out.cell (j := 12) rfl
        clear R BQ CQ
        generalize wr.heap.size = g6 at *
        obtain ⟨wX, hwX⟩ : ∃ wX, wX = wq.alloc (.cells #[.bool d.has, .int .u64 (d.s.id : Int), .int .u64 (d.s.ev : Int), .int .u64 (d.s.safe : Int), .int .i64 d.s.role, .int .i64 d.s.m, .int .i64 d.s.c, .int .i64 d.s.t, .int .i64 d.s.ring, .bool d.s.lazy, .bool d.s.lost, .slice uo d.s.st.length uc, .int .i64 d.s.cur] 39) := ⟨_, rfl⟩
        have CX : Chg [] wq wX := by rw [hwX]; exact (Chg.refl _ _).alloc _
        have BX : Blk wX wq.heap.size 39 (BalD.cells ⟨d.has, d.s, .slice uo d.s.st.length uc⟩) := by rw [hwX]; exact Blk.made wq _ _
        have RA := RC.out.chg CX
        have FIN : Hid (∀ v' w', w'.ownsRow w4.heap.size 39 13 v' (mz.length + 1) (flat13 mz ++ (BalD.cells ⟨d.has, d.s, .slice uo d.s.st.length uc⟩)) → wX.grownBy w' (Value.slice mo mz.length mc).ownBlock → (v'.ownBlock = (Value.slice mo mz.length mc).ownBlock ∨ (v'.ownBlock = some wX.heap.size ∧ wX.grownBy w' none)) → ARow w4 w' v' (mz ++ [⟨d.has, d.s, .slice uo d.s.st.length uc⟩])) := fun v' w' o g hv => RA.app (ASt.arg SLd.out BGd FTd.out RA.ch RA.row) o g hv
        have OWN : Hid (wX.ownsRow w4.heap.size 39 13 (.slice mo mz.length mc) mz.length (flat13 mz)) := RA.row
        have NW : Hid (∀ (q : Nat) u, (BalD.cells ⟨d.has, d.s, .slice uo d.s.st.length uc⟩)[q]? = some u → wX.cell? ((⟨wq.heap.size, 0, none⟩ : Addr).add q) = some u) := fun q u hu => by
          have e : (⟨wq.heap.size, 0, none⟩ : Addr).add q = ⟨wq.heap.size, q, none⟩ := by rw [Addr.add_lit, Nat.zero_add]
          rw [e]
          exact BX.cell hu
        have ONE : Hid (∀ u ∈ (BalD.cells ⟨d.has, d.s, .slice uo d.s.st.length uc⟩), u.oneCell' = true) := by
          intro u hu
          simp only [BalD.cells, List.mem_cons, List.not_mem_nil, or_false] at hu
          rcases hu with rfl | rfl | rfl | rfl | rfl | rfl | rfl | rfl | rfl | rfl | rfl | rfl | rfl <;> rfl
        have SZ : Hid (w4.heap.size ≤ wX.heap.size) := RA.ch.size
        have hmz : mz.length ≤ 10000 := by have := LZ.out; omega
        replace hwX := Lib.hid hwX
        clear RC RA CX BX
        go_wp2_with (at_builtin; rw [← hwX.out]; refine wpList_append_three _ rfl _ _ 22 rfl w4.heap.size 39 i0 _ 13 112 Try.underlying22 ki.out kz0.out kz1.out kz2.out rfl (by decide) _ mz.length (flat13 mz) rfl OWN.out ⟨wq.heap.size, 0, none⟩ 1 1 (BalD.cells ⟨d.has, d.s, .slice uo d.s.st.length uc⟩) rfl rfl NW.out ONE.out (by unfold maxLen; omega) (by omega) SZ.out ?_; intro v' w' O1 G1 V1; have R2 := Lib.hid (FIN.out v' w' O1.out G1.out V1.out); clear O1 G1 V1 FIN OWN NW ONE SZ)
        have RL2 : Hid (GRel ds n dj.s (mz ++ [⟨d.has, d.s, .slice uo d.s.st.length uc⟩])) := RL.out.push hd LZ.out rfl (.inl rfl)
        exact ⟨⟨j + 1, mz ++ [⟨d.has, d.s, .slice uo d.s.st.length uc⟩], by omega, by go_num, (by show _ = _; simp [LZ.out]), R2, RL2⟩, by simp [intOf]; omega⟩
      have hgb : (!(d.s.m == dj.s.m && d.s.c == dj.s.c && d.s.t == dj.s.t)) = false := by
        rw [hge.1, hge.2.1, hge.2.2]
        simp
      rw [hgb] at GN
      have HGE := Lib.hid hge
      clear hge hgb
      have x11 := BJq.out.cell (j := 11) rfl
      go_upto_region 13 with fail
      clear k5 k6 k7 t5 t6 t7 GN
      go_upto_region 15 with (at_builtin; refine wpList_append_sl _ rfl _ _ 27 rfl wq.heap.size 37 s0 (.int .u8 0) 1 Try.underlying27 si.out sz0.out sz1.out sz2.out rfl (.slice none 0 0) 0 [] rfl (World.ownsRow_nil _ _ _ _) yo dj.s.st.length yc dj.s.st rfl SJq.out (by unfold maxLen; omega) (by omega) (Nat.le_refl _) ?_; intro v5 w5 O5 G5 V5; rw [List.nil_append, Nat.zero_add] at O5; obtain ⟨so5, c5, rfl⟩ := owns_slice O5.out; obtain ⟨gS, rfl⟩ := owns_head O5.out (by omega); have C5 : Hid (Chg [] wq w5) := (Chg.refl [] wq).grown G5.out (fun k hk => by cases hk); clear G5 V5; have BQ5 := Lib.hid (BQ.out.chg C5.out (by simp)); have f11 := BQ5.out.free 11; have y11 := BQ5.out.cell (j := 11) rfl)
      clear y11
      have gS1 : Hid (wq.heap.size ≤ gS ∧ gS < w5.heap.size) := O5.out.lt gS rfl
      have g61 : Hid (wr.heap.size < wq.heap.size) := BQ.out.lt
      have N5 : Hid (gS ≠ wr.heap.size) := by show _ ≠ _; have := gS1.out; have := g61.out; omega
      have C5' := Lib.hid (CQ.out.trans C5.out)
      have BJ5 := Lib.hid (BJq.out.chg C5.out (by simp))
      have X1 : Hid (Blk (w5.setCell ⟨wr.heap.size, 11, none⟩ (.slice (some ⟨gS, 0, none⟩) dj.s.st.length c5)) wr.heap.size 39 [.bool d.has, .int .u64 (d.s.id : Int), .int .u64 (d.s.ev : Int), .int .u64 (d.s.safe : Int), .int .i64 d.s.role, .int .i64 d.s.m, .int .i64 d.s.c, .int .i64 d.s.t, .int .i64 d.s.ring, .bool d.s.lazy, .bool d.s.lost, .slice (some ⟨gS, 0, none⟩) dj.s.st.length c5, .int .i64 d.s.cur]) := BQ5.out.set 11 _
      have X2 : Hid (Blk (w5.setCell ⟨wr.heap.size, 11, none⟩ (.slice (some ⟨gS, 0, none⟩) dj.s.st.length c5)) gJ 39 [.bool true, .int .u64 (dj.s.id : Int), .int .u64 (dj.s.ev : Int), .int .u64 (dj.s.safe : Int), .int .i64 dj.s.role, .int .i64 dj.s.m, .int .i64 dj.s.c, .int .i64 dj.s.t, .int .i64 dj.s.ring, .bool dj.s.lazy, .bool dj.s.lost, .slice yo dj.s.st.length yc, .int .i64 dj.s.cur]) := Blk.other BJ5.out (Ne.symm NJ.out) _
      have X3 : Hid ((w5.setCell ⟨wr.heap.size, 11, none⟩ (.slice (some ⟨gS, 0, none⟩) dj.s.st.length c5)).ownsRow wq.heap.size 37 1 (.slice (some ⟨gS, 0, none⟩) dj.s.st.length c5) dj.s.st.length (dj.s.st.map (Value.int .u8))) := owns_chg O5.out (show Chg [wr.heap.size] w5 _ from (Chg.refl _ _).setCell (.inl (by simp)) _) (by intro q hq; have e : gS = q := (by simpa [Value.ownBlock] using hq); have := N5.out; simp; omega)
      have X4 : Hid (Chg [] wr (w5.setCell ⟨wr.heap.size, 11, none⟩ (.slice (some ⟨gS, 0, none⟩) dj.s.st.length c5))) := C5'.out.setCell (.inr (Nat.le_refl _)) _
      clear f11 BQ5 O5 BJ5 C5 C5'
      clear BQ CQ BJq SJq
      generalize w5.setCell ⟨wr.heap.size, 11, none⟩ (.slice (some ⟨gS, 0, none⟩) dj.s.st.length c5) = w6 at *
      have z12 := X2.out.cell (j := 12) rfl
      have f12 := X1.out.free 12
      have y12 := X1.out.cell (j := 12) rfl
      go_upto_region 16 with fail
      have X1a : Hid (Blk (w6.setCell ⟨wr.heap.size, 12, none⟩ (.int .i64 dj.s.cur)) wr.heap.size 39 [.bool d.has, .int .u64 (d.s.id : Int), .int .u64 (d.s.ev : Int), .int .u64 (d.s.safe : Int), .int .i64 d.s.role, .int .i64 d.s.m, .int .i64 d.s.c, .int .i64 d.s.t, .int .i64 d.s.ring, .bool d.s.lazy, .bool d.s.lost, .slice (some ⟨gS, 0, none⟩) dj.s.st.length c5, .int .i64 dj.s.cur]) := X1.out.set 12 _
      have X2a : Hid (Blk (w6.setCell ⟨wr.heap.size, 12, none⟩ (.int .i64 dj.s.cur)) gJ 39 [.bool true, .int .u64 (dj.s.id : Int), .int .u64 (dj.s.ev : Int), .int .u64 (dj.s.safe : Int), .int .i64 dj.s.role, .int .i64 dj.s.m, .int .i64 dj.s.c, .int .i64 dj.s.t, .int .i64 dj.s.ring, .bool dj.s.lazy, .bool dj.s.lost, .slice yo dj.s.st.length yc, .int .i64 dj.s.cur]) := Blk.other X2.out (Ne.symm NJ.out) _
      have X3a : Hid ((w6.setCell ⟨wr.heap.size, 12, none⟩ (.int .i64 dj.s.cur)).ownsRow wq.heap.size 37 1 (.slice (some ⟨gS, 0, none⟩) dj.s.st.length c5) dj.s.st.length (dj.s.st.map (Value.int .u8))) := owns_chg X3.out (show Chg [wr.heap.size] w6 _ from (Chg.refl _ _).setCell (.inl (by simp)) _) (by intro q hq; have e : gS = q := (by simpa [Value.ownBlock] using hq); have := N5.out; simp; omega)
      have X4a : Hid (Chg [] wr (w6.setCell ⟨wr.heap.size, 12, none⟩ (.int .i64 dj.s.cur))) := X4.out.setCell (.inr (Nat.le_refl _)) _
      clear z12 f12 y12 X1 X2 X3 X4
      generalize w6.setCell ⟨wr.heap.size, 12, none⟩ (.int .i64 dj.s.cur) = w7 at *
      have f3 := X1a.out.free 3
      have y3 := X1a.out.cell (j := 3) rfl
      go_upto_region 17 with fail
      have X1 : Hid (Blk (w7.setCell ⟨wr.heap.size, 3, none⟩ (.int .u64 1)) wr.heap.size 39 [.bool d.has, .int .u64 (d.s.id : Int), .int .u64 (d.s.ev : Int), .int .u64 1, .int .i64 d.s.role, .int .i64 d.s.m, .int .i64 d.s.c, .int .i64 d.s.t, .int .i64 d.s.ring, .bool d.s.lazy, .bool d.s.lost, .slice (some ⟨gS, 0, none⟩) dj.s.st.length c5, .int .i64 dj.s.cur]) := X1a.out.set 3 _
      have X2 : Hid (Blk (w7.setCell ⟨wr.heap.size, 3, none⟩ (.int .u64 1)) gJ 39 [.bool true, .int .u64 (dj.s.id : Int), .int .u64 (dj.s.ev : Int), .int .u64 (dj.s.safe : Int), .int .i64 dj.s.role, .int .i64 dj.s.m, .int .i64 dj.s.c, .int .i64 dj.s.t, .int .i64 dj.s.ring, .bool dj.s.lazy, .bool dj.s.lost, .slice yo dj.s.st.length yc, .int .i64 dj.s.cur]) := Blk.other X2a.out (Ne.symm NJ.out) _
      have X3 : Hid ((w7.setCell ⟨wr.heap.size, 3, none⟩ (.int .u64 1)).ownsRow wq.heap.size 37 1 (.slice (some ⟨gS, 0, none⟩) dj.s.st.length c5) dj.s.st.length (dj.s.st.map (Value.int .u8))) := owns_chg X3a.out (show Chg [wr.heap.size] w7 _ from (Chg.refl _ _).setCell (.inl (by simp)) _) (by intro q hq; have e : gS = q := (by simpa [Value.ownBlock] using hq); have := N5.out; simp; omega)
      have X4 : Hid (Chg [] wr (w7.setCell ⟨wr.heap.size, 3, none⟩ (.int .u64 1))) := X4a.out.setCell (.inr (Nat.le_refl _)) _
      clear f3 y3 X1a X2a X3a X4a
      generalize w7.setCell ⟨wr.heap.size, 3, none⟩ (.int .u64 1) = w8 at *
      have f10 := X1.out.free 10
      have y10 := X1.out.cell (j := 10) rfl
      obtain ⟨P2, hP2⟩ : ∃ P2 : Int, Int.tmod (j : Int) 2 = P2 := ⟨_, rfl⟩
      have hPB : Hid ((P2 == 1) = decide (j % 2 = 1)) := by
        show _ = _
        rw [Int.tmod_eq_emod_of_nonneg hj0] at hP2
        rw [Bool.eq_iff_iff, beq_iff_eq, decide_eq_true_eq]
        omega
      go_upto_region 18 with fail
      rw [hPB.out]
      have X1a : Hid (Blk (w8.setCell ⟨wr.heap.size, 10, none⟩ (.bool (decide (j % 2 = 1)))) wr.heap.size 39 [.bool d.has, .int .u64 (d.s.id : Int), .int .u64 (d.s.ev : Int), .int .u64 1, .int .i64 d.s.role, .int .i64 d.s.m, .int .i64 d.s.c, .int .i64 d.s.t, .int .i64 d.s.ring, .bool d.s.lazy, .bool (decide (j % 2 = 1)), .slice (some ⟨gS, 0, none⟩) dj.s.st.length c5, .int .i64 dj.s.cur]) := X1.out.set 10 _
      have X2a : Hid (Blk (w8.setCell ⟨wr.heap.size, 10, none⟩ (.bool (decide (j % 2 = 1)))) gJ 39 [.bool true, .int .u64 (dj.s.id : Int), .int .u64 (dj.s.ev : Int), .int .u64 (dj.s.safe : Int), .int .i64 dj.s.role, .int .i64 dj.s.m, .int .i64 dj.s.c, .int .i64 dj.s.t, .int .i64 dj.s.ring, .bool dj.s.lazy, .bool dj.s.lost, .slice yo dj.s.st.length yc, .int .i64 dj.s.cur]) := Blk.other X2.out (Ne.symm NJ.out) _
      have X3a : Hid ((w8.setCell ⟨wr.heap.size, 10, none⟩ (.bool (decide (j % 2 = 1)))).ownsRow wq.heap.size 37 1 (.slice (some ⟨gS, 0, none⟩) dj.s.st.length c5) dj.s.st.length (dj.s.st.map (Value.int .u8))) := owns_chg X3.out (show Chg [wr.heap.size] w8 _ from (Chg.refl _ _).setCell (.inl (by simp)) _) (by intro q hq; have e : gS = q := (by simpa [Value.ownBlock] using hq); have := N5.out; simp; omega)
      have X4a : Hid (Chg [] wr (w8.setCell ⟨wr.heap.size, 10, none⟩ (.bool (decide (j % 2 = 1))))) := X4.out.setCell (.inr (Nat.le_refl _)) _
      clear f10 y10 X1 X2 X3 X4 hPB hP2
      generalize w8.setCell ⟨wr.heap.size, 10, none⟩ (.bool (decide (j % 2 = 1))) = w9 at *
      obtain ⟨LO, hLO⟩ : ∃ LO, LO = decide (j % 2 = 1) := ⟨_, rfl⟩
      rw [← hLO] at X1a ⊢
      replace hLO := Lib.hid hLO
      by_cases hjn : (j : Int) = (n : Int) - 1
      case neg =>
        go_upto_region 20 with fail
        have RC := Lib.hid (R.out.chg X4a.out)
        have y0 := X1a.out.cell (j := 0) rfl
        have y1 := X1a.out.cell (j := 1) rfl
        have y2 := X1a.out.cell (j := 2) rfl
        have y3 := X1a.out.cell (j := 3) rfl
        have y4 := X1a.out.cell (j := 4) rfl
        have y5 := X1a.out.cell (j := 5) rfl
        have y6 := X1a.out.cell (j := 6) rfl
        have y7 := X1a.out.cell (j := 7) rfl
        have y8 := X1a.out.cell (j := 8) rfl
        have y9 := X1a.out.cell (j := 9) rfl
        have y10 := X1a.out.cell (j := 10) rfl
        have y11 := X1a.out.cell (j := 11) rfl
        have y12 := X1a.out.cell (j := 12) rfl
        have R0 := R
        clear R X1a X2a
        generalize hg6 : wr.heap.size = g6 at *
        obtain ⟨wX, hwX⟩ : ∃ wX, wX = w9.alloc (.cells #[.bool d.has, .int .u64 (d.s.id : Int), .int .u64 (d.s.ev : Int), .int .u64 1, .int .i64 d.s.role, .int .i64 d.s.m, .int .i64 d.s.c, .int .i64 d.s.t, .int .i64 d.s.ring, .bool d.s.lazy, .bool LO, .slice (some ⟨gS, 0, none⟩) dj.s.st.length c5, .int .i64 dj.s.cur] 39) := ⟨_, rfl⟩
        have CX : Chg [] w9 wX := by rw [hwX]; exact (Chg.refl _ _).alloc _
        have BX : Blk wX w9.heap.size 39 (BalD.cells (⟨d.has, { d.s with st := dj.s.st, cur := dj.s.cur, safe := 1, lost := LO }, .slice (some ⟨gS, 0, none⟩) dj.s.st.length c5⟩ : BalD)) := by rw [hwX]; exact Blk.made w9 _ _
        have RA := RC.out.chg CX
        have ASTC : ∀ (W : World), Chg [] w9 W → ARow w4 W (.slice mo mz.length mc) mz → ASt W (.slice mo mz.length mc) (⟨d.has, { d.s with st := dj.s.st, cur := dj.s.cur, safe := 1, lost := LO }, .slice (some ⟨gS, 0, none⟩) dj.s.st.length c5⟩ : BalD) := fun W c q => by
          have o := owns_chg X3a.out c (by simp)
          refine ⟨⟨Sl.owned o, .inr fun k hk => ?_⟩, BGj, FTT.out LO⟩
          obtain rfl : gS = k := by simpa [Value.ownBlock] using hk
          refine ⟨(o.lt gS rfl).2, fun e => ?_⟩
          have h1 := (R0.out.row.lt _ e).2
          have h2 := (o.lt gS rfl).1
          have := g61.out
          omega
        have FIN : Hid (∀ v' w', w'.ownsRow w4.heap.size 39 13 v' (mz.length + 1) (flat13 mz ++ (BalD.cells (⟨d.has, { d.s with st := dj.s.st, cur := dj.s.cur, safe := 1, lost := LO }, .slice (some ⟨gS, 0, none⟩) dj.s.st.length c5⟩ : BalD))) → wX.grownBy w' (Value.slice mo mz.length mc).ownBlock → (v'.ownBlock = (Value.slice mo mz.length mc).ownBlock ∨ (v'.ownBlock = some wX.heap.size ∧ wX.grownBy w' none)) → ARow w4 w' v' (mz ++ [(⟨d.has, { d.s with st := dj.s.st, cur := dj.s.cur, safe := 1, lost := LO }, .slice (some ⟨gS, 0, none⟩) dj.s.st.length c5⟩ : BalD)])) := fun v' w' o g hv => RA.app (ASTC wX CX RA) o g hv
        have OWN : Hid (wX.ownsRow w4.heap.size 39 13 (.slice mo mz.length mc) mz.length (flat13 mz)) := RA.row
        have NW : Hid (∀ (q : Nat) u, (BalD.cells (⟨d.has, { d.s with st := dj.s.st, cur := dj.s.cur, safe := 1, lost := LO }, .slice (some ⟨gS, 0, none⟩) dj.s.st.length c5⟩ : BalD))[q]? = some u → wX.cell? ((⟨w9.heap.size, 0, none⟩ : Addr).add q) = some u) := fun q u hu => by
          have e : (⟨w9.heap.size, 0, none⟩ : Addr).add q = ⟨w9.heap.size, q, none⟩ := by rw [Addr.add_lit, Nat.zero_add]
          rw [e]
          exact BX.cell hu
        have ONE : Hid (∀ u ∈ (BalD.cells (⟨d.has, { d.s with st := dj.s.st, cur := dj.s.cur, safe := 1, lost := LO }, .slice (some ⟨gS, 0, none⟩) dj.s.st.length c5⟩ : BalD)), u.oneCell' = true) := by
          intro u hu
          simp only [BalD.cells, List.mem_cons, List.not_mem_nil, or_false] at hu
          rcases hu with rfl | rfl | rfl | rfl | rfl | rfl | rfl | rfl | rfl | rfl | rfl | rfl | rfl <;> rfl
        have SZ : Hid (w4.heap.size ≤ wX.heap.size) := RA.ch.size
        have hmz : mz.length ≤ 10000 := by have := LZ.out; omega
        replace hwX := Lib.hid hwX
        clear RC RA CX BX
        go_wp2_with (at_builtin; rw [← hwX.out]; refine wpList_append_three _ rfl _ _ 22 rfl w4.heap.size 39 i0 _ 13 112 Try.underlying22 ki.out kz0.out kz1.out kz2.out rfl (by decide) _ mz.length (flat13 mz) rfl OWN.out ⟨w9.heap.size, 0, none⟩ 1 1 (BalD.cells (⟨d.has, { d.s with st := dj.s.st, cur := dj.s.cur, safe := 1, lost := LO }, .slice (some ⟨gS, 0, none⟩) dj.s.st.length c5⟩ : BalD)) rfl rfl NW.out ONE.out (by unfold maxLen; omega) (by omega) SZ.out ?_; intro v' w' O1 G1 V1; have R2 := Lib.hid (FIN.out v' w' O1.out G1.out V1.out); clear O1 G1 V1 FIN OWN NW ONE SZ)
        have RL2 : Hid (GRel ds n dj.s (mz ++ [(⟨d.has, { d.s with st := dj.s.st, cur := dj.s.cur, safe := 1, lost := LO }, .slice (some ⟨gS, 0, none⟩) dj.s.st.length c5⟩ : BalD)])) := RL.out.push hd LZ.out rfl (.inr ⟨HOK.out, HGE.out, by omega, by rw [hLO.out]; rfl⟩)
        exact ⟨⟨j + 1, _, by omega, by go_num, (by show _ = _; simp [LZ.out]), R2, RL2⟩, by simp [intOf]; omega⟩
      have hdd : d = dj := by
        have e1 : j = n - 1 := by omega
        have h1 := hd
        rw [e1, HDJ.out] at h1
        exact (Option.some.inj h1).symm
      have z0 := X2a.out.cell (j := 0) rfl
      have z1 := X2a.out.cell (j := 1) rfl
      have z2 := X2a.out.cell (j := 2) rfl
      have z3 := X2a.out.cell (j := 3) rfl
      have z4 := X2a.out.cell (j := 4) rfl
      have z5 := X2a.out.cell (j := 5) rfl
      have z6 := X2a.out.cell (j := 6) rfl
      have z7 := X2a.out.cell (j := 7) rfl
      have z8 := X2a.out.cell (j := 8) rfl
      have z9 := X2a.out.cell (j := 9) rfl
      have z10 := X2a.out.cell (j := 10) rfl
      have z11 := X2a.out.cell (j := 11) rfl
      have z12 := X2a.out.cell (j := 12) rfl
      have B5z : Hid (∀ W, Hid (Blk W wr.heap.size 39 (lay [.bool d.has, .int .u64 (d.s.id : Int), .int .u64 (d.s.ev : Int), .int .u64 1, .int .i64 d.s.role, .int .i64 d.s.m, .int .i64 d.s.c, .int .i64 d.s.t, .int .i64 d.s.ring, .bool d.s.lazy, .bool LO, .slice (some ⟨gS, 0, none⟩) dj.s.st.length c5, .int .i64 dj.s.cur] 0 [.bool true, .int .u64 (dj.s.id : Int), .int .u64 (dj.s.ev : Int), .int .u64 (dj.s.safe : Int), .int .i64 dj.s.role, .int .i64 dj.s.m, .int .i64 dj.s.c, .int .i64 dj.s.t, .int .i64 dj.s.ring, .bool dj.s.lazy, .bool dj.s.lost, .slice yo dj.s.st.length yc, .int .i64 dj.s.cur])) → Hid (Chg [wr.heap.size] w9 W) → Hid (Blk W wr.heap.size 39 [.bool true, .int .u64 (dj.s.id : Int), .int .u64 (dj.s.ev : Int), .int .u64 (dj.s.safe : Int), .int .i64 dj.s.role, .int .i64 dj.s.m, .int .i64 dj.s.c, .int .i64 dj.s.t, .int .i64 dj.s.ring, .bool dj.s.lazy, .bool dj.s.lost, .slice yo dj.s.st.length yc, .int .i64 dj.s.cur]) ∧ Hid (Chg [] wr W)) := fun W B c1 => by
        have B := B.out
        rw [lay_all _ _ (by rfl)] at B
        exact ⟨B, X4a.out.fresh c1.out (fun i hi => .inr (by rw [List.mem_singleton.1 hi]; exact Nat.le_refl _))⟩
      have PSb := Lib.hid size_bal
      have LEb : Hid (0 + ([.bool true, .int .u64 (dj.s.id : Int), .int .u64 (dj.s.ev : Int), .int .u64 (dj.s.safe : Int), .int .i64 dj.s.role, .int .i64 dj.s.m, .int .i64 dj.s.c, .int .i64 dj.s.t, .int .i64 dj.s.ring, .bool dj.s.lazy, .bool dj.s.lost, .slice yo dj.s.st.length yc, .int .i64 dj.s.cur] : List Value).length ≤ ([.bool d.has, .int .u64 (d.s.id : Int), .int .u64 (d.s.ev : Int), .int .u64 1, .int .i64 d.s.role, .int .i64 d.s.m, .int .i64 d.s.c, .int .i64 d.s.t, .int .i64 d.s.ring, .bool d.s.lazy, .bool LO, .slice (some ⟨gS, 0, none⟩) dj.s.st.length c5, .int .i64 dj.s.cur] : List Value).length) := Nat.le_refl 13
      have OCb : Hid (∀ v ∈ ([.bool true, .int .u64 (dj.s.id : Int), .int .u64 (dj.s.ev : Int), .int .u64 (dj.s.safe : Int), .int .i64 dj.s.role, .int .i64 dj.s.m, .int .i64 dj.s.c, .int .i64 dj.s.t, .int .i64 dj.s.ring, .bool dj.s.lazy, .bool dj.s.lost, .slice yo dj.s.st.length yc, .int .i64 dj.s.cur] : List Value), v.oneCell' = true) := by
        intro v hv
        simp only [List.mem_cons, List.not_mem_nil, or_false] at hv
        rcases hv with rfl | rfl | rfl | rfl | rfl | rfl | rfl | rfl | rfl | rfl | rfl | rfl | rfl <;> rfl
      go_upto_region 19 with fail
      replace hjn := Lib.hid hjn
      go_upto_region 20 with (refine wpList_store_blk rfl _ _ _ rfl wr.heap.size 0 39 [.bool d.has, .int .u64 (d.s.id : Int), .int .u64 (d.s.ev : Int), .int .u64 1, .int .i64 d.s.role, .int .i64 d.s.m, .int .i64 d.s.c, .int .i64 d.s.t, .int .i64 d.s.ring, .bool d.s.lazy, .bool LO, .slice (some ⟨gS, 0, none⟩) dj.s.st.length c5, .int .i64 dj.s.cur] [.bool true, .int .u64 (dj.s.id : Int), .int .u64 (dj.s.ev : Int), .int .u64 (dj.s.safe : Int), .int .i64 dj.s.role, .int .i64 dj.s.m, .int .i64 dj.s.c, .int .i64 dj.s.t, .int .i64 dj.s.ring, .bool dj.s.lazy, .bool dj.s.lost, .slice yo dj.s.st.length yc, .int .i64 dj.s.cur] rfl rfl X1a.out LEb.out PSb.out OCb.out ?_; intro wz B1 C1; obtain ⟨B3, C3⟩ := B5z.out wz B1 C1; clear B1 C1 B5z PSb OCb LEb)
      have RC := Lib.hid (R.out.chg C3.out)
      clear z0 z1 z2 z3 z4 z5 z6 z7 z8 z9 z10 z11 z12
      have y0 := B3.out.cell (j := 0) rfl
      have y1 := B3.out.cell (j := 1) rfl
      have y2 := B3.out.cell (j := 2) rfl
      have y3 := B3.out.cell (j := 3) rfl
      have y4 := B3.out.cell (j := 4) rfl
      have y5 := B3.out.cell (j := 5) rfl
      have y6 := B3.out.cell (j := 6) rfl
      have y7 := B3.out.cell (j := 7) rfl
      have y8 := B3.out.cell (j := 8) rfl
      have y9 := B3.out.cell (j := 9) rfl
      have y10 := B3.out.cell (j := 10) rfl
      have y11 := B3.out.cell (j := 11) rfl
      have y12 := B3.out.cell (j := 12) rfl
      clear R X1a X2a X3a X4a B3 C3
      generalize wr.heap.size = g6 at *
      obtain ⟨wX, hwX⟩ : ∃ wX, wX = wz.alloc (.cells #[.bool true, .int .u64 (dj.s.id : Int), .int .u64 (dj.s.ev : Int), .int .u64 (dj.s.safe : Int), .int .i64 dj.s.role, .int .i64 dj.s.m, .int .i64 dj.s.c, .int .i64 dj.s.t, .int .i64 dj.s.ring, .bool dj.s.lazy, .bool dj.s.lost, .slice yo dj.s.st.length yc, .int .i64 dj.s.cur] 39) := ⟨_, rfl⟩
      have CX : Chg [] wz wX := by rw [hwX]; exact (Chg.refl _ _).alloc _
      have BX : Blk wX wz.heap.size 39 (BalD.cells (⟨true, dj.s, .slice yo dj.s.st.length yc⟩ : BalD)) := by rw [hwX]; exact Blk.made wz _ _
      have RA := RC.out.chg CX
      have FIN : Hid (∀ v' w', w'.ownsRow w4.heap.size 39 13 v' (mz.length + 1) (flat13 mz ++ (BalD.cells (⟨true, dj.s, .slice yo dj.s.st.length yc⟩ : BalD))) → wX.grownBy w' (Value.slice mo mz.length mc).ownBlock → (v'.ownBlock = (Value.slice mo mz.length mc).ownBlock ∨ (v'.ownBlock = some wX.heap.size ∧ wX.grownBy w' none)) → ARow w4 w' v' (mz ++ [(⟨true, dj.s, .slice yo dj.s.st.length yc⟩ : BalD)])) := fun v' w' o g hv => RA.app (ASt.arg SLj4.out BGj FTj.out RA.ch RA.row) o g hv
      have OWN : Hid (wX.ownsRow w4.heap.size 39 13 (.slice mo mz.length mc) mz.length (flat13 mz)) := RA.row
      have NW : Hid (∀ (q : Nat) u, (BalD.cells (⟨true, dj.s, .slice yo dj.s.st.length yc⟩ : BalD))[q]? = some u → wX.cell? ((⟨wz.heap.size, 0, none⟩ : Addr).add q) = some u) := fun q u hu => by
        have e : (⟨wz.heap.size, 0, none⟩ : Addr).add q = ⟨wz.heap.size, q, none⟩ := by rw [Addr.add_lit, Nat.zero_add]
        rw [e]
        exact BX.cell hu
      have ONE : Hid (∀ u ∈ (BalD.cells (⟨true, dj.s, .slice yo dj.s.st.length yc⟩ : BalD)), u.oneCell' = true) := by
        intro u hu
        simp only [BalD.cells, List.mem_cons, List.not_mem_nil, or_false] at hu
        rcases hu with rfl | rfl | rfl | rfl | rfl | rfl | rfl | rfl | rfl | rfl | rfl | rfl | rfl <;> rfl
      have SZ : Hid (w4.heap.size ≤ wX.heap.size) := RA.ch.size
      have hmz : mz.length ≤ 10000 := by have := LZ.out; omega
      replace hwX := Lib.hid hwX
      clear RC RA CX BX
      go_wp2_with (at_builtin; rw [← hwX.out]; refine wpList_append_three _ rfl _ _ 22 rfl w4.heap.size 39 i0 _ 13 112 Try.underlying22 ki.out kz0.out kz1.out kz2.out rfl (by decide) _ mz.length (flat13 mz) rfl OWN.out ⟨wz.heap.size, 0, none⟩ 1 1 (BalD.cells (⟨true, dj.s, .slice yo dj.s.st.length yc⟩ : BalD)) rfl rfl NW.out ONE.out (by unfold maxLen; omega) (by omega) SZ.out ?_; intro v' w' O1 G1 V1; have R2 := Lib.hid (FIN.out v' w' O1.out G1.out V1.out); clear O1 G1 V1 FIN OWN NW ONE SZ)
      have RL2 : Hid (GRel ds n dj.s (mz ++ [(⟨true, dj.s, .slice yo dj.s.st.length yc⟩ : BalD)])) := RL.out.push hd LZ.out (by rw [hdd, hjh.out]) (.inl (by rw [hdd]))
      exact ⟨⟨j + 1, _, by omega, by go_num, (by show _ = _; simp [LZ.out]), R2, RL2⟩, by simp [intOf]; omega⟩
    · obtain rfl : j = n := by omega
      have CG := RL.out.cong HN.out LZ.out (by omega) HDJ.out FINE.out
      have RZ := R
      clear R RL BJr NJ
      have EQ := CG
      have CM : Hid (Chg [] w wr) := C4n.out.trans RZ.out.ch
      have c1 := Lib.hid (choose_any ds _ wr (HV.out.chg CM.out))
      have c2 := Lib.hid (fun W (c : Chg [] wr W) => choose_any mz _ W ((RZ.out.chg c).bals (by rw [LZ.out]; omega)))
      unfold Chose at c1 c2
      rw [← EQ.1, ← EQ.2.1, ← EQ.2.2.1, ← EQ.2.2.2] at c2
      clear EQ RZ CG
      generalize hZ : Vt.out ds = Z at *
      generalize Vt.ch ds = CB at *
      generalize Vt.jn ds = JB at *
      generalize (Vt.err ds : Int) = ER at *
      have hZb : Z.st.length ≤ 140737488355328 := by
        rw [← hZ]
        exact Vt.out_len ds
      clear hZ
      go_wp2_with fail
      refine c1.out.mono ?_
      rintro e w8 ⟨u1, rfl, O1, C8⟩
      have S1 : Hid (Sl w8 u1 Z.st) := Sl.owned O1.out
      obtain ⟨ao1, ac1, rfl⟩ := owns_slice O1.out
      clear O1 c1
      unfold verdV verdCells at *
      obtain ⟨w9, hw9⟩ : ∃ w9, w9 = w8.alloc (.cells #[.int .u64 (Z.id : Int), .int .u64 (Z.ev : Int), .int .u64 (Z.safe : Int), .int .i64 Z.role, .int .i64 Z.m, .int .i64 Z.c, .int .i64 Z.t, .int .i64 Z.ring, .bool Z.lazy, .bool Z.lost, .slice ao1 Z.st.length ac1, .int .i64 Z.cur, .bool CB, .bool JB] 31) := ⟨_, rfl⟩
      have V9 : Hid (Blk w9 w8.heap.size 31 [.int .u64 (Z.id : Int), .int .u64 (Z.ev : Int), .int .u64 (Z.safe : Int), .int .i64 Z.role, .int .i64 Z.m, .int .i64 Z.c, .int .i64 Z.t, .int .i64 Z.ring, .bool Z.lazy, .bool Z.lost, .slice ao1 Z.st.length ac1, .int .i64 Z.cur, .bool CB, .bool JB]) := by show Blk _ _ _ _; rw [hw9]; exact Blk.made w8 _ _
      have C89 : Hid (Chg [] w8 w9) := by show Chg _ _ _; rw [hw9]; exact (Chg.refl _ _).alloc _
      have C9 := Lib.hid (C8.out.trans C89.out)
      have S9 := Lib.hid (S1.out.chg C89.out (by simp))
      replace hw9 := Lib.hid hw9
      have c3 := Lib.hid (c2.out w9 C9.out)
      clear c2 C8 C89 S1
      go_wp2_with fail
      rw [← hw9.out]
      generalize w8.heap.size = gA at *
      clear hw9
      refine c3.out.mono ?_
      rintro e wa ⟨u2, rfl, O2, Ca⟩
      have S2 : Hid (Sl wa u2 Z.st) := Sl.owned O2.out
      obtain ⟨ao2, ac2, rfl⟩ := owns_slice O2.out
      clear O2 c3
      have Va := Lib.hid (V9.out.chg Ca.out (by simp))
      have Sa := Lib.hid (S9.out.chg Ca.out (by simp))
      have Ca' := Lib.hid (CM.out.trans (C9.out.trans Ca.out))
      clear V9 S9 C9 Ca CM
      obtain ⟨wb, hwb⟩ : ∃ wb, wb = wa.alloc (.cells #[.int .u64 (Z.id : Int), .int .u64 (Z.ev : Int), .int .u64 (Z.safe : Int), .int .i64 Z.role, .int .i64 Z.m, .int .i64 Z.c, .int .i64 Z.t, .int .i64 Z.ring, .bool Z.lazy, .bool Z.lost, .slice ao2 Z.st.length ac2, .int .i64 Z.cur, .bool CB, .bool JB] 31) := ⟨_, rfl⟩
      have Vb2 : Hid (Blk wb wa.heap.size 31 [.int .u64 (Z.id : Int), .int .u64 (Z.ev : Int), .int .u64 (Z.safe : Int), .int .i64 Z.role, .int .i64 Z.m, .int .i64 Z.c, .int .i64 Z.t, .int .i64 Z.ring, .bool Z.lazy, .bool Z.lost, .slice ao2 Z.st.length ac2, .int .i64 Z.cur, .bool CB, .bool JB]) := by show Blk _ _ _ _; rw [hwb]; exact Blk.made wa _ _
      have Cb : Hid (Chg [] wa wb) := by show Chg _ _ _; rw [hwb]; exact (Chg.refl _ _).alloc _
      have Vb := Lib.hid (Va.out.chg Cb.out (by simp))
      have Sb := Lib.hid (Sa.out.chg Cb.out (by simp))
      have Sb2 := Lib.hid (S2.out.chg Cb.out (by simp))
      have Cb' := Lib.hid (Ca'.out.trans Cb.out)
      have KW := Lib.hid (known_any wb)
      replace hwb := Lib.hid hwb
      clear Va Sa Ca' Cb S2
      go_wp2_with fail
      rw [← hwb.out]
      generalize wa.heap.size = gB at *
      clear hwb
      refine KW.out.mono ?_
      rintro e wk ⟨rfl, CK⟩
      have CC := Lib.hid (Cb'.out.trans CK.out)
      have Vk := Lib.hid (Vb.out.chg CK.out (by simp))
      have Vk2 := Lib.hid (Vb2.out.chg CK.out (by simp))
      have SV := Lib.hid (sameVerdict_any Z CB JB _ _ wk (Sb.out.chg CK.out (by simp)) (Sb2.out.chg CK.out (by simp)) hZb)
      unfold verdV verdCells at SV
      have y0 := Vk.out.cell (j := 0) rfl
      have y1 := Vk.out.cell (j := 1) rfl
      have y2 := Vk.out.cell (j := 2) rfl
      have y3 := Vk.out.cell (j := 3) rfl
      have y4 := Vk.out.cell (j := 4) rfl
      have y5 := Vk.out.cell (j := 5) rfl
      have y6 := Vk.out.cell (j := 6) rfl
      have y7 := Vk.out.cell (j := 7) rfl
      have y8 := Vk.out.cell (j := 8) rfl
      have y9 := Vk.out.cell (j := 9) rfl
      have y10 := Vk.out.cell (j := 10) rfl
      have y11 := Vk.out.cell (j := 11) rfl
      have y12 := Vk.out.cell (j := 12) rfl
      have y13 := Vk.out.cell (j := 13) rfl
      have z0 := Vk2.out.cell (j := 0) rfl
      have z1 := Vk2.out.cell (j := 1) rfl
      have z2 := Vk2.out.cell (j := 2) rfl
      have z3 := Vk2.out.cell (j := 3) rfl
      have z4 := Vk2.out.cell (j := 4) rfl
      have z5 := Vk2.out.cell (j := 5) rfl
      have z6 := Vk2.out.cell (j := 6) rfl
      have z7 := Vk2.out.cell (j := 7) rfl
      have z8 := Vk2.out.cell (j := 8) rfl
      have z9 := Vk2.out.cell (j := 9) rfl
      have z10 := Vk2.out.cell (j := 10) rfl
      have z11 := Vk2.out.cell (j := 11) rfl
      have z12 := Vk2.out.cell (j := 12) rfl
      have z13 := Vk2.out.cell (j := 13) rfl
      clear KW Vb Vb2 Sb Sb2 CK Cb' Vk Vk2
      go_wp2_with fail
      refine SV.out.mono ?_
      rintro e wl ⟨rfl, CL⟩
      have CF := Lib.hid (CC.out.trans CL.out)
      clear SV CL CC y0 z0 y1 z1 y2 z2 y3 z3 y4 z4 y5 z5 y6 z6 y7 z7 y8 z8 y9 z9 y10 z10 y11 z11 y12 z12 y13 z13
      go_wp2_with fail
      go_ret
      exact ⟨rfl, CF⟩

theorem voteGuide_walk (lv : Value) (ds : List BalD) (w : World) (hv : Bals w lv ds) : Calls Try.prog 6 #[lv] w fun e w' => e = .returned (.bool true) ∧ Chg [] w w' :=
  (voteGuide_core lv ds w hv).mono (fun _ _ h => ⟨h.1, h.2.out⟩)

end Go.Proofs.Ytffpjefecmkfmaa
