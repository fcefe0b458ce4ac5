/-
  VoteKeeps. By an AI agent.
-/
import Derived.Test.YtffpjefecmkfmaaBVtKn
import Derived.BigQuiet
namespace Go.Proofs.Ytffpjefecmkfmaa
open Go.RowKit

/-- What is known of a verdict that was told. -/
structure Vt.Kept (ds : List BalD) : Prop where
  n4 : 4 ≤ ds.length
  n17 : ds.length ≤ 17
  len : (Vt.out ds).st.length + 1 = ds.length
  role : (Vt.out ds).role = 0
  away : Vt.away (Vt.out ds).st ≤ 1
  up : ∀ (m : Nat) (x : Int), (Vt.out ds).st[m]? = some x → x ≠ 2 → ∃ d, ds[m]? = some d ∧ d.has = true ∧ d.s.role = (m : Int) ∧ d.s.ev ≤ (Vt.out ds).ev ∧ (Vt.out ds).safe ≤ d.s.ev ∧ d.s.id = (Vt.out ds).id
  jn : Vt.jn ds = true → ∀ (m : Nat) (x : Int), (Vt.out ds).st[m]? = some x → x ≠ 2 → (Vt.sp ds (Vt.jr ds)).st[m]? = some x

theorem Vt.akin_of {ds : List BalD} (h : Vt.Agree ds (Vt.cnt ds) Sup.akin ds.length) {i j : Nat} (hi : Vt.cnt ds i = true) (hj : Vt.cnt ds j = true) : (Vt.sp ds i).akin (Vt.sp ds j) = true := by
  have li := Vt.cnt_lt hi
  have lj := Vt.cnt_lt hj
  by_cases e : i = j
  · subst e; exact Sup.akin_self _
  · by_cases q : i < j
    · exact h j lj hj i q hi
    · rw [Sup.akin_comm]
      exact h i li hi j (by omega) hj

theorem Vt.kept {ds : List BalD} (h : Vt.err ds = 0) : Vt.Kept ds := by
  have ho : Vt.out ds = Vt.won ds := by unfold Vt.out; rw [if_pos h]
  have hjn : Vt.jn ds = decide (Vt.guide ds = Vt.jr ds) := by unfold Vt.jn; rw [decide_eq_true h, Bool.true_and]
  unfold Vt.err at h
  by_cases hn : 4 ≤ ds.length ∧ ds.length ≤ 17
  case neg => rw [if_neg hn] at h; cases h
  rw [if_pos hn] at h
  by_cases hr : Vt.refusal ds = 0
  case neg => rw [if_neg hr] at h; exact absurd h hr
  rw [if_pos hr] at h
  by_cases ha : Vt.away (Vt.won ds).st ≤ 1
  case neg => rw [if_neg ha] at h; cases h
  unfold Vt.refusal at hr
  by_cases hm : Vt.most ds = 0
  case pos => rw [if_pos hm] at hr; cases hr
  rw [if_neg hm] at hr
  by_cases hag : Vt.Agree ds (Vt.cnt ds) Sup.akin ds.length
  case neg => rw [if_neg hag] at hr; cases hr
  have hg := Vt.guide_cnt hm
  have gi := Vt.cnt_is hg
  have hst : (Vt.sp ds (Vt.guide ds)).st.length + 1 = ds.length := by
    have q1 := gi.ok.2.1.2.2.2.2.2.2.2.2
    have q2 := gi.m
    have := gi.lt
    omega
  have hu : ∀ m x, (Vt.won ds).st[m]? = some x → x ≠ 2 → Vt.saw ds (Vt.sp ds (Vt.guide ds)).safe m = true ∧ (Vt.sp ds (Vt.guide ds)).st[m]? = some x := fun m x hx h2 => by
    have hx' : (Vt.stsTo ds (Vt.sp ds (Vt.guide ds)) (Vt.sp ds (Vt.guide ds)).st.length)[m]? = some x := hx
    have hml := (List.getElem?_eq_some_iff.1 hx').1
    rw [Vt.stsTo_len] at hml
    unfold Vt.stsTo at hx'
    rw [List.getElem?_map, List.getElem?_range hml] at hx'
    simp only [Option.map_some, Option.some.injEq] at hx'
    by_cases hgn : Vt.gone ds (Vt.sp ds (Vt.guide ds)) m = true
    · rw [if_pos ⟨hml, hgn⟩] at hx'
      exact absurd hx'.symm h2
    · rw [if_neg (fun q => hgn q.2)] at hx'
      unfold Vt.gone at hgn
      rw [hx', decide_eq_true h2, Bool.true_and] at hgn
      refine ⟨by simpa using hgn, ?_⟩
      rw [List.getElem?_eq_getElem hml]
      simp only [List.getD, List.getElem?_eq_getElem hml] at hx'
      exact congrArg some hx'
  refine ⟨hn.1, hn.2, ?_, ?_, ?_, ?_, ?_⟩
  · rw [ho]
    show (Vt.stsTo ds _ _).length + 1 = _
    rw [Vt.stsTo_len]
    exact hst
  · rw [ho]; rfl
  · rw [ho]; exact ha
  · intro m x hx h2
    rw [ho] at hx ⊢
    obtain ⟨hs, _⟩ := hu m x hx h2
    unfold Vt.saw at hs
    rw [Bool.and_eq_true, decide_eq_true_eq] at hs
    have mi := Vt.cnt_is hs.1
    obtain ⟨d, hd⟩ : ∃ d, ds[m]? = some d := ⟨_, List.getElem?_eq_getElem mi.lt⟩
    have es := Vt.sp_at hd
    refine ⟨d, hd, mi.has d hd, ?_, ?_, ?_, ?_⟩
    · rw [← es]; exact mi.role
    · rw [← es]; exact Vt.le_most hs.1
    · rw [← es]; exact hs.2
    · rw [← es]
      have := Vt.akin_of hag hs.1 hg
      unfold Sup.akin at this
      simp only [Bool.and_eq_true, beq_iff_eq] at this
      exact this.1.1.1
  · intro hj m x hx h2
    rw [hjn, decide_eq_true_eq] at hj
    rw [ho] at hx
    rw [← hj]
    exact (hu m x hx h2).2

theorem Sl.cellAt {w : World} {ao : Option Addr} {n c : Nat} {xs : List Int} (h : Sl w (.slice ao n c) xs) {j : Nat} {x : Int} (hj : xs[j]? = some x) : ∃ b o, ao = some ⟨b, o, none⟩ ∧ w.cell? ⟨b, o + j, none⟩ = some (.int .u8 x) := by
  obtain ⟨hl, hx⟩ := List.getElem?_eq_some_iff.1 hj
  rcases h with ⟨rfl, _⟩ | ⟨b, o, cp, e, _, q⟩
  · cases hl
  · obtain ⟨rfl, -, -⟩ : ao = some ⟨b, o, none⟩ ∧ n = xs.length ∧ c = cp := by simpa using e
    refine ⟨b, o, rfl, ?_⟩
    rw [q j hl]
    simp [List.getD, List.getElem?_eq_getElem hl, hx]

set_option maxHeartbeats 8000000 in
set_option maxRecDepth 100000 in
theorem voteKeeps_core (lv : Value) (ds : List BalD) (w : World) (hv : Bals w lv ds) : Calls Try.prog 3 #[lv] w fun e w' => e = .returned (.bool true) ∧ Hid (Chg [] w w') := by
  have HV := Lib.hid hv
  have MU := Lib.hid (much_any lv ds w hv)
  have CA := Lib.hid (choose_any ds lv w hv)
  have KN := Lib.hid (fun W => known_any W)
  have hlen := hv.len
  obtain ⟨vo, vc, rfl⟩ := hv.slice
  clear hv
  obtain ⟨n, hn⟩ : ∃ n, n = ds.length := ⟨_, rfl⟩
  rw [← hn] at MU CA hlen ⊢
  replace hn := Lib.hid hn
  have hn0 : (0 : Int) ≤ n := Int.natCast_nonneg _
  go_enter Try.func3, Try.ntmps3
  go_wp2_with fail
  refine MU.out.mono ?_
  rintro e w1 ⟨bm, rfl, _, rfl⟩
  clear MU
  cases bm with
  | true =>
    go_wp2_with fail
    go_ret
    exact ⟨rfl, Chg.refl _ _⟩
  | false =>
  by_cases h0 : n = 0
  · have h00 : (n : Int) = 0 := by omega
    go_wp2_with fail
    go_ret
    exact ⟨rfl, Chg.refl _ _⟩
  have h00 : ¬ (n : Int) = 0 := by omega
  have H0 := Lib.hid h0
  clear h0
  go_wp2_with fail
  refine CA.out.mono ?_
  rintro e w2 ⟨u, rfl, O2, C2⟩
  clear CA
  have KP : Vt.err ds = 0 → Vt.Kept ds := Vt.kept
  have SLu : Hid (Sl w2 u (Vt.out ds).st) := Sl.owned O2.out
  obtain ⟨uo, uc, rfl⟩ := owns_slice O2.out
  unfold verdV verdCells
  generalize hZ : Vt.out ds = Z at *
  generalize hCB : Vt.ch ds = CB at *
  generalize hJB : Vt.jn ds = JB at *
  obtain ⟨w3, hw3⟩ : ∃ w3, w3 = w2.alloc (.cells #[.int .u64 (Z.id : Int), .int .u64 (Z.ev : Int), .int .u64 (Z.safe : Int), .int .i64 Z.role, .int .i64 Z.m, .int .i64 Z.c, .int .i64 Z.t, .int .i64 Z.ring, .bool Z.lazy, .bool Z.lost, .slice uo Z.st.length uc, .int .i64 Z.cur, .bool CB, .bool JB] 31) := ⟨_, rfl⟩
  have V3 : Hid (Blk w3 w2.heap.size 31 [.int .u64 (Z.id : Int), .int .u64 (Z.ev : Int), .int .u64 (Z.safe : Int), .int .i64 Z.role, .int .i64 Z.m, .int .i64 Z.c, .int .i64 Z.t, .int .i64 Z.ring, .bool Z.lazy, .bool Z.lost, .slice uo Z.st.length uc, .int .i64 Z.cur, .bool CB, .bool JB]) := by show Blk _ _ _ _; rw [hw3]; exact Blk.made w2 _ _
  have C23 : Hid (Chg [] w2 w3) := by show Chg _ _ _; rw [hw3]; exact (Chg.refl _ _).alloc _
  have C3 : Hid (Chg [] w w3) := C2.out.trans C23.out
  have SL3 : Hid (Sl w3 (.slice uo Z.st.length uc) Z.st) := SLu.out.chg C23.out (by simp)
  replace hw3 := Lib.hid hw3
  by_cases he : Vt.err ds = 0
  case neg =>
    have he1 : ¬ (Vt.err ds : Int) = 0 := by omega
    clear he KP SLu O2 C2 hZ hCB hJB
    generalize (Vt.err ds : Int) = ER at *
    go_wp2_with fail
    rw [← hw3.out]
    refine (KN.out w3).mono ?_
    rintro e w4 ⟨rfl, C4⟩
    have C4' := Lib.hid (C3.out.trans C4.out)
    clear KN V3 C23 C3 SL3 hw3 C4
    go_wp2_with fail
    go_ret
    exact ⟨rfl, C4'⟩
  have K := KP he
  rw [he]
  clear KP SLu O2 C2
  have hL1 : Z.st.length + 1 = n := by
    have := K.len
    rw [hZ] at this
    rw [this]
    exact hn.out.symm
  have hn4 : 4 ≤ n ∧ n ≤ 17 := by have := K.n4; have := K.n17; have := hn.out; omega
  have AW : Hid (Vt.away Z.st ≤ 1) := by have := K.away; rw [hZ] at this; exact this
  have hRole : Z.role = 0 := by have := K.role; rw [hZ] at this; exact this
  have UP : Hid (∀ (m : Nat) (x : Int), Z.st[m]? = some x → x ≠ 2 → ∃ d, ds[m]? = some d ∧ d.has = true ∧ d.s.role = (m : Int) ∧ d.s.ev ≤ Z.ev ∧ Z.safe ≤ d.s.ev ∧ d.s.id = Z.id) := by
    have := K.up
    rw [hZ] at this
    exact this
  have JN : Hid (JB = true → ∀ (m : Nat) (x : Int), Z.st[m]? = some x → x ≠ 2 → (Vt.sp ds (Vt.jr ds)).st[m]? = some x) := by
    have := K.jn
    rw [hZ, hJB] at this
    exact this
  obtain ⟨dj, hdj⟩ : ∃ dj, ds[n - 1]? = some dj := ⟨_, List.getElem?_eq_getElem (by have := hn.out; omega)⟩
  have hjr : Vt.sp ds (Vt.jr ds) = dj.s := by
    have : Vt.jr ds = n - 1 := by unfold Vt.jr; rw [← hn.out]
    rw [this]
    exact Vt.sp_at hdj
  rw [hjr] at JN
  obtain ⟨b, o, e0, hb, _⟩ := HV.out.at hdj
  obtain rfl : vo = some ⟨b, o, none⟩ := e0
  have BAT : Hid (∀ (i : Nat) d, ds[i]? = some d → ∀ W, Chg [] w W → BalIn W b (o + i * 13) d) := fun i d hi W c => by
    obtain ⟨b', o', e1, hb', q⟩ := HV.out.at hi
    obtain ⟨rfl, rfl⟩ : b = b' ∧ o = o' := by simpa using e1
    exact q.chg hb' c
  have HDJ := Lib.hid hdj
  obtain ⟨N1, hN1⟩ : ∃ N1 : Nat, N1 = n - 1 := ⟨_, rfl⟩
  rw [← hN1] at HDJ
  have hW1 : IntKind.i64.wrap ((n : Int) - 1) = (N1 : Int) ∧ wrap64 ((n : Int) - 1) = (N1 : Int) := by
    constructor
    · rw [IntKind.wrap_i64]; omega
    · unfold wrap64; omega
  have HW1 := Lib.hid hW1
  have hN1n : (N1 : Int) < n := by omega
  have hN10 : (0 : Int) ≤ N1 := Int.natCast_nonneg _
  clear K hZ hCB hJB he hjr hdj hb HV hW1
  replace hN1 := Lib.hid hN1
  have hRole2 := Lib.hid hRole
  clear hRole
  have hNn : (n : Int) ≤ 17 := by omega
  go_wp2_with fail
  rw [← hw3.out]
  clear hw3
  have v10 := V3.out.cell (j := 10) rfl
  have HLL := Lib.hid hL1
  generalize hgV : w2.heap.size = gV at *
  clear hgV C23
  clear w2
  go_loopw [5, 6] (fun a i wr => ∃ j k : Nat, j ≤ Z.st.length ∧ a = .int .i64 (k : Int) ∧ i = .int .i64 (j : Int) ∧ k ≤ j ∧ Hid (Vt.away (Z.st.take j) = k) ∧ Hid (Chg [] w3 wr)) (fun _ i _ => Z.st.length - (intOf i).toNat)
  case atStart => exact ⟨0, 0, Nat.zero_le _, rfl, rfl, Nat.le_refl _, (by show Vt.away (Z.st.take 0) = 0; rfl), Chg.refl _ _⟩
  case round =>
    obtain ⟨j, k, hj, rfl, rfl, hk, HK, C⟩ := hrel
    have hj0 : (0 : Int) ≤ j := Int.natCast_nonneg _
    have hk0 : (0 : Int) ≤ k := Int.natCast_nonneg _
    have hk1 : (k : Int) ≤ 17 := by omega
    have VR := Lib.hid (V3.out.chg C.out (by simp))
    have z10 := VR.out.cell (j := 10) rfl
    clear v10
    by_cases hlt : j < Z.st.length
    · have hj1 : (j : Int) < Z.st.length := by omega
      obtain ⟨x, hx⟩ : ∃ x, Z.st[j]? = some x := ⟨_, List.getElem?_eq_getElem hlt⟩
      obtain ⟨b2, o2, e2, hc⟩ := (SL3.out.chg C.out (by simp)).cellAt hx
      obtain rfl : uo = some ⟨b2, o2, none⟩ := e2
      have NX := Vt.away_succ hx
      rw [HK.out] at NX
      clear HK
      by_cases h1 : x = 1
      · have NX2 : Hid (Vt.away (Z.st.take (j + 1)) = k) := by show _ = _; rw [NX, h1]; rfl
        have h2 : x ≠ 2 := by omega
        subst h1
        clear NX
        obtain ⟨d, hd, hhas, hrole, hev, hsafe, hid⟩ := UP.out j 1 hx h2
        have BI := BAT.out j d hd wr (C3.out.trans C.out)
        have d0 := BI.c0
        have d1 := BI.c1
        have d2 := BI.c2
        have d4 := BI.c4
        rw [hhas] at d0
        rw [hrole] at d4
        have hidI : (d.s.id : Int) = (Z.id : Int) := by omega
        rw [hidI] at d1
        have hev1 : ¬ (Z.ev : Int) < (d.s.ev : Int) := by omega
        have hsf1 : ¬ (d.s.ev : Int) < (Z.safe : Int) := by omega
        have y0 := VR.out.cell (j := 0) rfl
        have y1 := VR.out.cell (j := 1) rfl
        have y2 := VR.out.cell (j := 2) rfl
        have hjn : (j : Int) < n := by omega
        have hjw : ¬ (n : Int) ≤ (j : Int) + 1 := by omega
        generalize (d.s.ev : Int) = dEv at *
        clear BI hd hhas hrole hidI hev hsafe hid
        clear d
        go_wp2_with fail
        have w1 : IntKind.i64.wrap ((j : Int) + 1) = (j : Int) + 1 ∧ wrap64 ((j : Int) + 1) = (j : Int) + 1 := by
          constructor
          · rw [IntKind.wrap_i64]; omega
          · unfold wrap64; omega
        go_quiet (fail)
        clear w1 d0 d1 d2 d4 y0 y1 y2 z10 hc
        have DJ := BAT.out N1 dj HDJ.out (wr.drewN nq) (C3.out.trans (C.out.drewN nq))
        obtain ⟨m0, m1, m2, m3, m4, m5, m6, m7, m8, m9, m10, m11, m12⟩ := DJ.at13
        obtain ⟨yo, yc, hy⟩ := DJ.sl.slice
        rw [hy] at m11
        have SJ := Lib.hid DJ.sl
        rw [hy] at SJ
        have hW1 := HW1.out
        clear DJ hy m0
        generalize hWQ : wr.drewN nq = wq at *
        have CQ : Hid (Chg [] w3 wq) := by show Chg _ _ _; rw [← hWQ]; exact C.out.drewN nq
        clear hWQ VR C
        clear wr
        obtain ⟨w8, hw8⟩ : ∃ w8, w8 = wq.alloc (.cells #[.int .u64 (dj.s.id : Int), .int .u64 (dj.s.ev : Int), .int .u64 (dj.s.safe : Int), .int .i64 dj.s.role, .int .i64 dj.s.m, .int .i64 dj.s.c, .int .i64 dj.s.t, .int .i64 dj.s.ring, .bool dj.s.lazy, .bool dj.s.lost, .slice yo dj.s.st.length yc, .int .i64 dj.s.cur] 29) := ⟨_, rfl⟩
        have V8s : Hid (Blk w8 wq.heap.size 29 [.int .u64 (dj.s.id : Int), .int .u64 (dj.s.ev : Int), .int .u64 (dj.s.safe : Int), .int .i64 dj.s.role, .int .i64 dj.s.m, .int .i64 dj.s.c, .int .i64 dj.s.t, .int .i64 dj.s.ring, .bool dj.s.lazy, .bool dj.s.lost, .slice yo dj.s.st.length yc, .int .i64 dj.s.cur]) := by show Blk _ _ _ _; rw [hw8]; exact Blk.made wq _ _
        have C8 : Hid (Chg [] w3 w8) := by show Chg _ _ _; rw [hw8]; exact CQ.out.alloc _
        have CQ8 : Hid (Chg [] wq w8) := by show Chg _ _ _; rw [hw8]; exact (Chg.refl _ _).alloc _
        have SJ8 := Lib.hid (SJ.out.chg CQ8.out (by simp))
        replace hw8 := Lib.hid hw8
        go_upto_region 16 with fail
        rw [← hw8.out]
        clear m1 m2 m3 m4 m5 m6 m7 m8 m9 m10 m11 m12 hw8 SJ CQ8 hW1 CQ hev1 hsf1 hjw
        have V8 := Lib.hid (V3.out.chg C8.out (by simp))
        have z13 := V8.out.cell (j := 13) rfl
        have z10 := V8.out.cell (j := 10) rfl
        cases JB with
        | false =>
          go_quiet (fail)
          have C9 : Hid (Chg [] w3 (w8.drewN nq)) := C8.out.drewN _
          clear z13 z10 V8 V8s C8 SJ8
          go_wp2_with fail
          exact ⟨⟨j + 1, k, by omega, by go_num, by go_num, by omega, NX2, C9⟩, by simp [intOf]; omega⟩
        | true =>
          have hxj := JN.out rfl j 1 hx h2
          obtain ⟨b3, o3, e3, hc3⟩ := SJ8.out.cellAt hxj
          obtain rfl : yo = some ⟨b3, o3, none⟩ := e3
          have hjl := (List.getElem?_eq_some_iff.1 hxj).1
          have hjl1 : (j : Int) < dj.s.st.length := by omega
          have hjl2 : ¬ (dj.s.st.length : Int) ≤ (j : Int) := by omega
          have s10 := V8s.out.cell (j := 10) rfl
          obtain ⟨b4, o4, e4, hc4⟩ := (SL3.out.chg C8.out (by simp)).cellAt hx
          obtain ⟨rfl, rfl⟩ : b2 = b4 ∧ o2 = o4 := by simpa using e4
          clear hxj hjl
          go_quiet (fail)
          have C9 : Hid (Chg [] w3 (w8.drewN nq)) := C8.out.drewN _
          clear z13 z10 V8 V8s C8 SJ8 hc3 hc4 s10 e4 hjl1 hjl2
          go_wp2_with fail
          exact ⟨⟨j + 1, k, by omega, by go_num, by go_num, by omega, NX2, C9⟩, by simp [intOf]; omega⟩
      have NX2 : Hid (Vt.away (Z.st.take (j + 1)) = k + 1) := by
        show _ = _
        rw [NX, if_pos (by simpa using h1)]
      clear NX
      by_cases h2 : x = 2
      · subst h2
        clear VR
        go_wp2_with fail
        exact ⟨⟨j + 1, k + 1, by omega, by go_num, by go_num, by omega, NX2, C⟩, by simp [intOf]; omega⟩
      obtain ⟨d, hd, hhas, hrole, hev, hsafe, hid⟩ := UP.out j x hx h2
      have BI := BAT.out j d hd wr (C3.out.trans C.out)
      have d0 := BI.c0
      have d1 := BI.c1
      have d2 := BI.c2
      have d4 := BI.c4
      rw [hhas] at d0
      rw [hrole] at d4
      have hidI : (d.s.id : Int) = (Z.id : Int) := by omega
      rw [hidI] at d1
      have hev1 : ¬ (Z.ev : Int) < (d.s.ev : Int) := by omega
      have hsf1 : ¬ (d.s.ev : Int) < (Z.safe : Int) := by omega
      have y0 := VR.out.cell (j := 0) rfl
      have y1 := VR.out.cell (j := 1) rfl
      have y2 := VR.out.cell (j := 2) rfl
      have hjn : (j : Int) < n := by omega
      have hjw : ¬ (n : Int) ≤ (j : Int) + 1 := by omega
      generalize (d.s.ev : Int) = dEv at *
      clear BI hd hhas hrole hidI hev hsafe hid
      clear d
      go_wp2_with fail
      have w1 : IntKind.i64.wrap ((j : Int) + 1) = (j : Int) + 1 ∧ wrap64 ((j : Int) + 1) = (j : Int) + 1 := by
        constructor
        · rw [IntKind.wrap_i64]; omega
        · unfold wrap64; omega
      go_quiet (fail)
      clear w1 d0 d1 d2 d4 y0 y1 y2 z10 hc
      have DJ := BAT.out N1 dj HDJ.out (wr.drewN nq) (C3.out.trans (C.out.drewN nq))
      obtain ⟨m0, m1, m2, m3, m4, m5, m6, m7, m8, m9, m10, m11, m12⟩ := DJ.at13
      obtain ⟨yo, yc, hy⟩ := DJ.sl.slice
      rw [hy] at m11
      have SJ := Lib.hid DJ.sl
      rw [hy] at SJ
      have hW1 := HW1.out
      clear DJ hy m0
      generalize hWQ : wr.drewN nq = wq at *
      have CQ : Hid (Chg [] w3 wq) := by show Chg _ _ _; rw [← hWQ]; exact C.out.drewN nq
      clear hWQ VR C
      clear wr
      obtain ⟨w8, hw8⟩ : ∃ w8, w8 = wq.alloc (.cells #[.int .u64 (dj.s.id : Int), .int .u64 (dj.s.ev : Int), .int .u64 (dj.s.safe : Int), .int .i64 dj.s.role, .int .i64 dj.s.m, .int .i64 dj.s.c, .int .i64 dj.s.t, .int .i64 dj.s.ring, .bool dj.s.lazy, .bool dj.s.lost, .slice yo dj.s.st.length yc, .int .i64 dj.s.cur] 29) := ⟨_, rfl⟩
      have V8s : Hid (Blk w8 wq.heap.size 29 [.int .u64 (dj.s.id : Int), .int .u64 (dj.s.ev : Int), .int .u64 (dj.s.safe : Int), .int .i64 dj.s.role, .int .i64 dj.s.m, .int .i64 dj.s.c, .int .i64 dj.s.t, .int .i64 dj.s.ring, .bool dj.s.lazy, .bool dj.s.lost, .slice yo dj.s.st.length yc, .int .i64 dj.s.cur]) := by show Blk _ _ _ _; rw [hw8]; exact Blk.made wq _ _
      have C8 : Hid (Chg [] w3 w8) := by show Chg _ _ _; rw [hw8]; exact CQ.out.alloc _
      have CQ8 : Hid (Chg [] wq w8) := by show Chg _ _ _; rw [hw8]; exact (Chg.refl _ _).alloc _
      have SJ8 := Lib.hid (SJ.out.chg CQ8.out (by simp))
      replace hw8 := Lib.hid hw8
      go_upto_region 16 with fail
      rw [← hw8.out]
      clear m1 m2 m3 m4 m5 m6 m7 m8 m9 m10 m11 m12 hw8 SJ CQ8 hW1 CQ hev1 hsf1 hjw
      have V8 := Lib.hid (V3.out.chg C8.out (by simp))
      have z13 := V8.out.cell (j := 13) rfl
      have z10 := V8.out.cell (j := 10) rfl
      cases JB with
      | false =>
        go_quiet (fail)
        have C9 : Hid (Chg [] w3 (w8.drewN nq)) := C8.out.drewN _
        clear z13 z10 V8 V8s C8 SJ8
        go_wp2_with fail
        exact ⟨⟨j + 1, k + 1, by omega, by go_num, by go_num, by omega, NX2, C9⟩, by simp [intOf]; omega⟩
      | true =>
        have hxj := JN.out rfl j x hx h2
        obtain ⟨b3, o3, e3, hc3⟩ := SJ8.out.cellAt hxj
        obtain rfl : yo = some ⟨b3, o3, none⟩ := e3
        have hjl := (List.getElem?_eq_some_iff.1 hxj).1
        have hjl1 : (j : Int) < dj.s.st.length := by omega
        have hjl2 : ¬ (dj.s.st.length : Int) ≤ (j : Int) := by omega
        have s10 := V8s.out.cell (j := 10) rfl
        obtain ⟨b4, o4, e4, hc4⟩ := (SL3.out.chg C8.out (by simp)).cellAt hx
        obtain ⟨rfl, rfl⟩ : b2 = b4 ∧ o2 = o4 := by simpa using e4
        clear hxj hjl
        go_quiet (fail)
        have C9 : Hid (Chg [] w3 (w8.drewN nq)) := C8.out.drewN _
        clear z13 z10 V8 V8s C8 SJ8 hc3 hc4 s10 e4 hjl1 hjl2
        go_wp2_with fail
        exact ⟨⟨j + 1, k + 1, by omega, by go_num, by go_num, by omega, NX2, C9⟩, by simp [intOf]; omega⟩
    · obtain rfl : j = Z.st.length := by omega
      have hkk : (k : Int) < 2 := by
        have := HK.out
        rw [List.take_length] at this
        have := AW.out
        omega
      have KW := Lib.hid (KN.out wr)
      have y3 : Hid (∀ W, Chg [] wr W → W.cell? ⟨gV, 3, none⟩ = some (.int .i64 0) ∧ W.cell? ⟨gV, 10, none⟩ = some (.slice uo Z.st.length uc)) := fun W c => by
        have q := VR.out.chg c (by simp)
        have q3 := q.cell (j := 3) rfl
        rw [hRole2.out] at q3
        exact ⟨q3, q.cell (j := 10) rfl⟩
      have hLN : (Z.st.length : Int) = (N1 : Int) := by have := hN1.out; omega
      have hW1 := HW1.out
      clear VR HK KN
      go_wp2_with fail
      refine KW.out.mono ?_
      rintro e w9 ⟨rfl, C9⟩
      obtain ⟨t3, t10⟩ := y3.out _ C9.out
      have C9' := Lib.hid (C3.out.trans (C.out.trans C9.out))
      clear KW y3 C9 z10
      go_wp2_with fail
      go_ret
      exact ⟨by simp [hLN], C9'⟩

theorem voteKeeps_walk (lv : Value) (ds : List BalD) (w : World) (hv : Bals w lv ds) : Calls Try.prog 3 #[lv] w fun e w' => e = .returned (.bool true) ∧ Chg [] w w' :=
  (voteKeeps_core lv ds w hv).mono (fun _ _ h => ⟨h.1, h.2.out⟩)

end Go.Proofs.Ytffpjefecmkfmaa
