/-
  WalCosts' walk. By an AI agent.
-/
import Derived.Test.YtaggfbgbmiifaaaGreatBWlKnR
import Derived.Test.YtaggfbgbmiifaaaGreatBWlMuch
import Derived.Test.YtaggfbgbmiifaaaGreatBWlUp
namespace Go.Proofs.YtaggfbgbmiifaaaGreat
open Go.RowKit Go.Maps Crc

theorem eql_cnt0 (w : World) : (binOp .eql 73 (.agg #[.int .i64 0, .int .i64 0, .int .i64 0]) (.agg #[.int .i64 0, .int .i64 0, .int .i64 0])).run Tryz.prog w = .ok (.bool true) w := by
  go_simp

theorem new2050_counts : (Bay.new [2050]).reads = 0 ∧ (Bay.new [2050]).writes = 0 ∧ (Bay.new [2050]).flushes = 0 := ⟨rfl, rfl, rfl⟩

/-- How a journal stands behind so many ops. -/
structure CSt (es : List WOpD) (n j : Nat) (y : Bay) (J : Wl.Jn) (d : Dk) (B L : Nat) : Prop where
  ok : Wl.Ok y J d B
  b : B ≤ 3 + j
  low : y.Low L
  l : L ≤ 3000 + 3 * wopW es j
  slot : J.slot = 0
  size : J.S = n

theorem CSt.begin {es : List WOpD} {n : Nat} (n5 : 5 ≤ n) (n2 : n ≤ 2048) : ∃ d, CSt es n 0 (Wl.fmtIo (Bay.new [2050]) 0 n 3).1 (Wl.begun 0 n ⟨3, 1, 0⟩ 0 1) d 3 2050 := by
  obtain ⟨_, d, h⟩ := Wl.cost_begin n5 n2
  exact ⟨d, h, Nat.le_refl _, (Wl.fmtIo_low (Bay.new_low [2050]) 0 n 3).mono (by omega), by omega, rfl, rfl⟩

theorem CSt.next {es : List WOpD} {n j : Nat} {y : Bay} {J : Wl.Jn} {d : Dk} {B L nw nf k : Nat} {o : Wl.Out} {a : WOpD} (h : CSt es n j y J d B L) (ha : es[j]? = some a) (c : Wl.Costs y J B o nw nf) (hl : o.bay.Low (L + k)) (hk : k ≤ 3 * a.weight) : ∃ d', CSt es n (j + 1) o.bay o.jn d' (B + 1) (L + k) := by
  obtain ⟨d', ok⟩ := c.ok
  refine ⟨d', ok, by have := h.b; omega, hl, ?_, c.slot.trans h.slot, c.size.trans h.size⟩
  rw [wopW_succ ha]
  have := h.l
  omega

theorem CSt.idle {es : List WOpD} {n j : Nat} {y : Bay} {J : Wl.Jn} {d : Dk} {B L : Nat} {a : WOpD} (h : CSt es n j y J d B L) (ha : es[j]? = some a) : ∃ d', CSt es n (j + 1) y J d' (B + 1) (L + 0) :=
  h.next ha (h.ok.same (e := 1) (by decide) 0 0) h.low (by omega)

theorem CSt.fit {es : List WOpD} {n j : Nat} {y : Bay} {J : Wl.Jn} {d : Dk} {B L : Nat} (h : CSt es n j y J d B L) (hj : j ≤ 100000) : J.Fit := h.ok.fit (by have := h.b; omega)

/-- So many operations more, if it is not refused. -/
def CDone (y : Bay) (o : Wl.Out) (nw nf : Int) : Prop :=
  o.bay.reads = y.reads ∧ (o.err = 0 → (o.bay.writes : Int) = y.writes + nw ∧ (o.bay.flushes : Int) = y.flushes + nf) ∧ (o.err ≠ 0 → o.bay.writes = y.writes ∧ o.bay.flushes = y.flushes)

/-- What a call comes to, in the walk: its error, the journal behind it, and so many operations. -/
def CPost (w0 : World) (es : List WOpD) (n j b W D R : Nat) (y : Bay) (ts : List Thing) (nw nf : Int) (e : Ending) (w' : World) : Prop :=
  ∃ (o : Wl.Out) (cv : Value) (F : List Nat) (d : Dk) (B L : Nat), e = .returned (.int .u16 o.err) ∧ Hid (CSt es n (j + 1) o.bay o.jn d B L) ∧
    Hid (CDone y o nw nf) ∧ Hid (Side w0 w' (jts b W D R o.jn cv o.bay F ts))

/-- What Cost says. -/
def costOf (k : Int) : Int := if 1 ≤ k ∧ k ≤ 1023 then 2 * k + 1 else 0

theorem costOf_in (k : Int) : 0 ≤ costOf k ∧ costOf k ≤ 2047 := by
  unfold costOf
  split <;> omega

theorem cost_any (k : Int) (w : World) : Calls Tryz.prog 26 #[.int .i64 k] w fun e w' => e = .returned (.int .i64 (costOf k)) ∧ w' = w := by
  unfold costOf
  by_cases h : 1 ≤ k ∧ k ≤ 1023
  · obtain ⟨n, rfl⟩ : ∃ n : Nat, k = n := ⟨k.toNat, by omega⟩
    have := cost_ok n w (by omega) (by omega)
    rw [show ((2 * n + 1 : Nat) : Int) = 2 * (n : Int) + 1 from by omega] at this
    rw [if_pos h]
    exact this
  · rw [if_neg h]
    exact cost_no k w h

theorem wopW_le {es : List WOpD} (h : wopW es es.length ≤ 5000) : es.length ≤ 5000 ∧ ∀ j, wopW es j ≤ 5000 := by
  have h1 : ∀ l : List WOpD, l.length ≤ (l.map WOpD.weight).sum := fun l => by
    induction l with
    | nil => exact Nat.le_refl 0
    | cons a l ih =>
      rw [List.map_cons, List.sum_cons, List.length_cons]
      have : 1 ≤ a.weight := by unfold WOpD.weight; omega
      omega
  have h2 : ∀ (l : List WOpD) (j : Nat), ((l.take j).map WOpD.weight).sum ≤ (l.map WOpD.weight).sum := fun l => by
    induction l with
    | nil => intro j; simp
    | cons a l ih =>
      intro j
      cases j with
      | zero => simp
      | succ j =>
        rw [List.take_succ_cons, List.map_cons, List.sum_cons, List.map_cons, List.sum_cons]
        have := ih j
        omega
  unfold wopW at h ⊢
  rw [List.take_length] at h
  exact ⟨Nat.le_trans (h1 es) h, fun j => Nat.le_trans (h2 es j) h⟩

section
variable {w0 X : World} {es : List WOpD} {n j b W D R : Nat} {y : Bay} {J : Wl.Jn} {d : Dk} {B L : Nat} {cv : Value} {F : List Nat} {ts : List Thing} {a : WOpD}

theorem CSt.bound (h : CSt es n j y J d B L) (hw : wopW es es.length ≤ 5000) : L ≤ 20000 := by
  have := h.l
  have := (wopW_le hw).2 j
  omega

theorem CPost.of {e : Ending} {w' : World} {o : Wl.Out} {nw nf k : Nat} {cv' : Value} {F' : List Nat} (h : CSt es n j y J d B L) (ha : es[j]? = some a) (c : Wl.Costs y J B o nw nf) (hl : o.bay.Low (L + k)) (hk : k ≤ 3 * a.weight) {mw mf : Int} (hm : o.err = 0 → mw = nw ∧ mf = nf) (he : e = .returned (.int .u16 o.err)) (H : Side w0 w' (jts b W D R o.jn cv' o.bay F' ts)) : CPost w0 es n j b W D R y ts mw mf e w' := by
  obtain ⟨d', s⟩ := h.next ha c hl hk
  exact ⟨o, cv', F', d', _, _, he, s, ⟨c.reads, fun q => by have := c.did q; have := hm q; omega, c.no⟩, H⟩

theorem meas_next {N j : Nat} (h : j < N) : N - (intOf (.int .i64 ((j : Int) + 1))).toNat < N - (intOf (.int .i64 (j : Int))).toNat := by
  show N - ((j : Int) + 1).toNat < N - ((j : Int)).toNat
  omega

theorem log_err0 {y : Bay} {J : Wl.Jn} {e : Int} {l : List Pd} (h : (Wl.logJ y J e l).err = 0) : e = 0 := by
  unfold Wl.logJ at h
  split at h
  next q => exact absurd h q
  next q =>
    have q' : Wl.logErr J e l.length = 0 := by omega
    unfold Wl.logErr at q'
    split at q'
    · rename_i hb; omega
    · split at q'
      · exact q'
      · omega

theorem ccall_log (H : Side w0 X (jts b W D R J cv y F ts)) (h : CSt es n j y J d B L) (hw : wopW es es.length ≤ 5000) (ha : es[j]? = some a) (v : Value) (hv : Pts X v a.pts) (hb : ∀ p ∈ a.pts, By p.d ∧ Cap p.v) :
    Calls Tryz.prog 30 #[.pointer (some ⟨W, 0, none⟩), v] X (CPost w0 es n j b W D R y ts (costOf (a.pts.length : Int) - 1) 1) := by
  have hj := (List.getElem?_eq_some_iff.1 ha).1
  have hlen := (wopW_le hw).1
  refine (wlog_any H (h.fit (by omega)) (by rw [h.slot]; exact ⟨by decide, by decide⟩) (h.low.mono (by have := h.bound hw; omega)) v a.pts hv hb).mono ?_
  rintro e w' ⟨h1, F', cv', h2⟩
  have hg : scErr J.ep J.next a.pts = 0 → Sc.Good (a.pts.map pdOf) := fun q => (scErr_zero q (fun p hp => (hb p hp).1)).2.1
  have c := h.ok.logCosts hg
  rw [List.length_map] at c
  have low := Wl.logJ_low h.low J (scErr J.ep J.next a.pts) (a.pts.map pdOf)
  rw [List.length_map] at low
  refine CPost.of h ha c low (by unfold WOpD.weight; omega) (fun q => ?_) h1 h2.out
  have hq : scErr J.ep J.next a.pts = 0 := log_err0 q
  have hgl : 1 ≤ (a.pts.map pdOf).length ∧ (a.pts.map pdOf).length ≤ 1023 := ⟨(hg hq).1, (hg hq).2.1⟩
  rw [List.length_map] at hgl
  unfold costOf
  rw [if_pos (by omega)]
  exact ⟨by omega, rfl⟩

theorem ccall_seal (H : Side w0 X (jts b W D R J cv y F ts)) (h : CSt es n j y J d B L) (hw : wopW es es.length ≤ 5000) (ha : es[j]? = some a) :
    Calls Tryz.prog 31 #[.pointer (some ⟨W, 0, none⟩)] X (CPost w0 es n j b W D R y ts 1 0) := by
  have hj := (List.getElem?_eq_some_iff.1 ha).1
  have hlen := (wopW_le hw).1
  refine (wseal_any H (h.fit (by omega)) (by rw [h.slot]; exact ⟨by decide, by decide⟩) (h.low.mono (by have := h.bound hw; omega))).mono ?_
  rintro e w' ⟨h1, F', h2⟩
  exact CPost.of h ha h.ok.sealCosts (Wl.sealJ_low h.low J) (by unfold WOpD.weight; omega) (fun _ => ⟨rfl, rfl⟩) h1 h2.out

theorem ccall_sync (H : Side w0 X (jts b W D R J cv y F ts)) (h : CSt es n j y J d B L) (hw : wopW es es.length ≤ 5000) (ha : es[j]? = some a) :
    Calls Tryz.prog 32 #[.pointer (some ⟨W, 0, none⟩)] X (CPost w0 es n j b W D R y ts 0 (if J.sure = true then 0 else 1)) := by
  refine (wsync_any H (by rw [h.slot]; exact ⟨by decide, by decide⟩) (h.low.mono (by have := h.bound hw; omega))).mono ?_
  rintro e w' ⟨h1, F', h2⟩
  exact CPost.of h ha h.ok.syncCosts.2 (Wl.syncJ_low h.low J) (by unfold WOpD.weight; omega) (fun _ => ⟨rfl, by split <;> rfl⟩) h1 h2.out

theorem ccall_reclaim (H : Side w0 X (jts b W D R J cv y F ts)) (h : CSt es n j y J d B L) (hw : wopW es es.length ≤ 5000) (ha : es[j]? = some a) :
    Calls Tryz.prog 33 #[.pointer (some ⟨W, 0, none⟩)] X (CPost w0 es n j b W D R y ts 1 1) := by
  have hj := (List.getElem?_eq_some_iff.1 ha).1
  have hlen := (wopW_le hw).1
  refine (wreclaim_any H (h.fit (by omega)) (by rw [h.slot]; exact ⟨by decide, by decide⟩) (h.low.mono (by have := h.bound hw; omega))).mono ?_
  rintro e w' ⟨h1, F', h2⟩
  exact CPost.of h ha (h.ok.passCosts J.ep (Nat.le_succ_of_le h.ok.ep)) (Wl.passJ_low h.low J J.ep) (by unfold WOpD.weight; omega) (fun _ => ⟨rfl, rfl⟩) h1 h2.out

theorem ccall_renew (H : Side w0 X (jts b W D R J cv y F ts)) (h : CSt es n j y J d B L) (hw : wopW es es.length ≤ 5000) (ha : es[j]? = some a) :
    Calls Tryz.prog 34 #[.pointer (some ⟨W, 0, none⟩)] X (CPost w0 es n j b W D R y ts 1 1) := by
  have hj := (List.getElem?_eq_some_iff.1 ha).1
  have hlen := (wopW_le hw).1
  refine (wrenew_any H (h.fit (by omega)) (by rw [h.slot]; exact ⟨by decide, by decide⟩) (h.low.mono (by have := h.bound hw; omega))).mono ?_
  rintro e w' ⟨h1, F', h2⟩
  exact CPost.of h ha (h.ok.passCosts (J.ep + 1) (by have := h.ok.ep; omega)) (Wl.passJ_low h.low J (J.ep + 1)) (by unfold WOpD.weight; omega) (fun _ => ⟨rfl, rfl⟩) h1 h2.out

end

set_option maxHeartbeats 4000000 in
set_option maxRecDepth 1000000 in
theorem wcosts_any (w : World) (ring pt : Int) (hr : I64 ring) (hp : I64 pt) (v : Value) (es : List WOpD) (hv : WOps w v es) : Calls Tryz.prog 5 #[.int .i64 ring, v, .int .i64 pt] w fun e w' => e = .returned (.bool true) ∧ Chg [] w w' := by
  have MU := Lib.hid (wmuch_any v es w hv)
  have HVS : Hid (∀ w', Chg [] w w' → WOps w' v es) := fun w' c => hv.chg c
  have KN : Hid (∀ w', Calls Tryz.prog 14 #[] w' fun e w'' => e = .returned (.bool true) ∧ Hid (Chg [] w' w'')) := wknown_any
  obtain ⟨vo, vc, rfl⟩ := hv.slice
  have CT : Hid (∀ w', Calls Tryz.prog 26 #[.int .i64 pt] w' fun e w'' => e = .returned (.int .i64 (costOf pt)) ∧ w' = w'') := fun w' => (cost_any pt w').mono fun e w'' h => ⟨h.1, h.2.symm⟩
  have NW : Hid (∀ w', Calls Tryz.prog 27 #[.slice (some ⟨w'.heap.size, 0, none⟩) 1 1] (w'.alloc (.cells #[.int .i64 2050] 3)) fun e w'' => ∃ b F, e = .returned (.tuple #[.pointer (some ⟨b, 0, none⟩), .int .u16 0]) ∧ Hid (Side w' w'' [BayT b (Bay.new [2050]) F])) := fun w' => by
    have BX := Blk.made w' [.int .i64 2050] 3
    refine (bnew_any (.slice (some ⟨w'.heap.size, 0, none⟩) 1 1) [2050] (w'.alloc (.cells #[.int .i64 2050] 3)) (.inr ⟨_, 0, 1, rfl, BX.lt, fun j u hj => by rw [Nat.zero_add]; exact BX.cell hj⟩) (by unfold Is; decide) (by decide)).mono ?_
    rintro e w1 (⟨hno, _⟩ | ⟨_, b, F, h1, D, N, C⟩)
    · exact absurd (by decide +kernel) hno
    · exact ⟨b, F, h1, (Side.nil ((Chg.refl [] w').alloc _)).add C.out D.out (fun k hk => by have := N.out k hk; simp at this; simp; omega)⟩
  have FM : Hid (∀ w0 w' b F, Side w0 w' [BayT b (Bay.new [2050]) F] → Calls Tryz.prog 15 #[.pointer (some ⟨b, 0, none⟩), .int .i64 0, .int .i64 ring, .int .u64 3] w' (Fmtd w0 b (Bay.new [2050]) 0 ring 3 [])) := fun w0 w' b F h => wformat_any h 0 ring ⟨by decide, by decide⟩ hr 3 (by decide) ((Bay.new_low [2050]).mono (by decide))
  have CN0 : Hid (∀ w0 w' b F, Side w0 w' [BayT b (Bay.new [2050]) F] → Calls Tryz.prog 28 #[.pointer (some ⟨b, 0, none⟩)] w' fun e w'' => e = .returned (.agg #[.int .i64 0, .int .i64 0, .int .i64 0]) ∧ Hid (Chg [] w' w'')) := fun w0 w' b F h => by
    have := bcounts_any b F (Bay.new [2050]) w' (h.get 0 rfl)
    rw [new2050_counts.1, new2050_counts.2.1, new2050_counts.2.2] at this
    exact this
  have e0 := eql_cnt0
  clear hv hr hp
  go_enter Tryz.func5, Tryz.ntmps5
  go_wp2_with fail
  refine MU.out.mono ?_
  rintro e w1 ⟨mb, rfl, hsm, q, rfl⟩
  replace hsm := Lib.hid hsm
  clear MU
  cases mb with
  | true =>
    go_wp2_with fail
    go_ret
    exact ⟨rfl, (Chg.refl [] w).drewN q⟩
  | false =>
  have HW : Hid (wopW es es.length ≤ 5000) := hsm.out rfl
  clear hsm
  by_cases h2048 : (2048 : Int) < ring
  · go_wp2_with fail
    go_ret
    exact ⟨rfl, (Chg.refl [] w).drewN q⟩
  have K1 := Lib.hid (KN.out (w.drewN q))
  clear KN
  go_wp2_with fail
  refine K1.out.mono ?_
  rintro e w2 ⟨rfl, C2⟩
  have CW : Hid (Chg [] w w2) := ((Chg.refl [] w).drewN q).trans C2.out
  clear K1 C2
  have NW2 := Lib.hid (NW.out w2)
  -- Cost's test, the bay, Format, the loop
  have C1 := Lib.hid (CT.out w2)
  go_upto_region 6 with (go_at_call 26; refine C1.out.mono ?_; rintro e w3 ⟨rfl, rfl⟩; clear C1)
  go_cut [34] from 29 to 34 (fun s34 wx => s34 = .bool (decide (pt < 1 ∨ 1023 < pt)) ∧ w2 = wx)
  case first =>
    clear HVS NW2 NW FM CN0 CT
    by_cases h1 : pt < 1
    · go_wp2_with fail
      go_meet
      exact ⟨by rw [decide_eq_true (Or.inl h1)], rfl⟩
    · go_wp2_with fail
      go_meet
      exact ⟨by by_cases h2 : 1023 < pt <;> simp [h2, show ¬ pt < 1 by omega], rfl⟩
  case rest =>
  obtain ⟨rfl, rfl⟩ := hcut
  go_upto_if 34 with fail
  go_cut [7] from 28 to 41 (fun _ wx => w2 = wx)
  case first =>
    clear HVS NW2 NW FM CN0 CT
    by_cases hp : 1 ≤ pt ∧ pt ≤ 1023
    · have hk : costOf pt = 2 * pt + 1 := by unfold costOf; rw [if_pos hp]
      rw [hk]
      obtain ⟨wa, wb⟩ := sc_wrap (z := 2 * pt) (by omega) (by omega)
      obtain ⟨wc, wd⟩ := sc_wrap (z := 2 * pt + 1) (by omega) (by omega)
      have hq : ¬ (pt < 1 ∨ 1023 < pt) := by omega
      clear hk hp
      go_wp2_with fail
      go_meet
      rfl
    · have hk : costOf pt = 0 := by unfold costOf; rw [if_neg hp]
      rw [hk]
      have hq : pt < 1 ∨ 1023 < pt := by omega
      clear hk hp
      go_wp2_with fail
      go_meet
      rfl
  case rest =>
  obtain rfl := hcut
  go_wp2_with (go_at_call 27; refine NW2.out.mono ?_; rintro e w4 ⟨b, F, rfl, H⟩; have FM2 := Lib.hid (FM.out _ _ _ _ H.out); have CN2 := Lib.hid (CN0.out _ _ _ _ H.out); clear NW2 FM CN0)
  refine FM2.out.mono ?_
  rintro e w5 (⟨hno, rfl, F5, H5⟩ | ⟨_, n, hn, n5, n2, ⟨hno, _⟩ | ⟨_, W, D, R, F5, rfl, H5⟩⟩)
  · have hlt : ring < 5 := by
      by_cases q : ring < 5
      · exact q
      · exact absurd ⟨by decide, by omega, by omega⟩ hno
    have CN3 : Hid (Calls Tryz.prog 28 #[.pointer (some ⟨b, 0, none⟩)] w5 fun e w'' => e = .returned (.agg #[.int .i64 0, .int .i64 0, .int .i64 0]) ∧ Hid (Chg [] w5 w'')) := by
      have := bcounts_any b F5 (Bay.new [2050]) w5 (H5.out.get 0 rfl)
      rw [new2050_counts.1, new2050_counts.2.1, new2050_counts.2.2] at this
      exact this
    have C5 := Lib.hid (CW.out.trans H5.out.chg)
    clear FM2 CN2 HVS H H5 hno
    go_wp2_with (go_at_call 28; refine CN3.out.mono ?_; rintro e w6 ⟨rfl, C6⟩)
    go_ret
    exact ⟨rfl, C5.out.trans C6.out⟩
  · exact absurd (Wl.cost_begin n5 n2).1 hno
  · subst hn
    clear FM2 CN2 H
    have H0 : Hid (∃ y J d cv F B L, CSt es n 0 y J d B L ∧ Side w2 w5 (jts b W D R J cv y F [])) := by
      obtain ⟨d0, S0⟩ := CSt.begin (es := es) n5 n2
      exact ⟨_, _, _, _, _, _, _, S0, H5.out⟩
    obtain ⟨N, hN⟩ : ∃ N, N = es.length := ⟨_, rfl⟩
    have HN := Lib.hid hN
    have HVN : Hid (∀ w', Chg [] w w' → WOps w' (.slice vo N vc) es) := fun w' c => by rw [hN]; exact HVS.out w' c
    rw [← hN]
    clear H5 HVS hN
    have hl0 : (0 : Int) ≤ N := Int.natCast_nonneg _
    go_wp2_with fail
    go_loopw [12] (fun i wr => ∃ j : Nat, j ≤ N ∧ i = .int .i64 j ∧ Hid (∃ y J d cv F B L, CSt es n j y J d B L ∧ Side w2 wr (jts b W D R J cv y F []))) (fun i _ => N - (intOf i).toNat)
    case atStart => exact ⟨0, Nat.zero_le _, rfl, H0⟩
    case round =>
      obtain ⟨j, hj, rfl, Hj⟩ := hrel
      clear H0
      have hj0 : (0 : Int) ≤ j := Int.natCast_nonneg _
      by_cases hlt : j < N
      · have hj1 : (j : Int) < N := by omega
        obtain ⟨y, J, d, cv, F, B, L, ST, H⟩ := Hj.out
        replace ST := Lib.hid ST
        replace H := Lib.hid H
        obtain ⟨a, ha⟩ : ∃ a, es[j]? = some a := ⟨_, List.getElem?_eq_getElem (by have := HN.out; omega)⟩
        obtain ⟨bl, o, rfl, hbl, RI⟩ := (HVN.out _ (CW.out.trans H.out.chg)).at ha
        obtain ⟨x2, y2, e2⟩ := RI.s2.slice
        obtain ⟨x3, y3, e3⟩ := RI.s3.slice
        have c0 := RI.c0
        have c1 := RI.c1
        have c2 := RI.c2
        have c3 := RI.c3
        rw [e2] at c2
        rw [e3] at c3
        replace ha := Lib.hid ha
        have HP : Hid (∀ w', Chg [] wr w' → Pts w' (.slice x2 a.pts.length y2) a.pts) := fun w' c => by rw [← e2]; exact RI.s2.chg c
        have HPB : Hid (∀ p ∈ a.pts, By p.d ∧ Cap p.v) := fun p hp => ⟨(RI.y2 p hp).1, (RI.y2 p hp).2⟩
        have HA1 : Hid (Side w2 (wr.alloc (.cells #[.int .i64 a.kind, .int .i64 a.num, .slice x2 a.pts.length y2, .slice x3 a.keep.length y3] 61)) (jts b W D R J cv y F [blkT wr.heap.size 61 [.int .i64 a.kind, .int .i64 a.num, .slice x2 a.pts.length y2, .slice x3 a.keep.length y3]])) := H.out.behind _ _
        have CN1 := Lib.hid (bcounts_any b F y _ (HA1.out.get 0 rfl))
        have SUF : Hid (∀ w' ts', Side w2 w' (jts b W D R J cv y F ts') → Calls Tryz.prog 29 #[.pointer (some ⟨W, 0, none⟩)] w' (Still w' (.bool J.sure))) := fun w' ts' h => wsure_any (h.get 2 rfl)
        clear Hj RI e2 e3 hbl
        go_upto_block 2 with (first
          | (go_at_call 28; refine CN1.out.mono ?_; rintro e w6 ⟨rfl, C6⟩; have HA2 := Lib.hid ((HA1.out.quiet C6.out).behind 73 [.int .i64 (y.reads : Int), .int .i64 (y.writes : Int), .int .i64 (y.flushes : Int)]); have SU := Lib.hid (SUF.out _ _ HA2.out); have HP6 : Hid (∀ w', Chg [] w6 w' → Pts w' (.slice x2 a.pts.length y2) a.pts) := fun w' c => HP.out w' ((((Chg.refl [] wr).alloc _).trans C6.out).trans c); clear CN1 SUF HA1 C6 HP)
          | (go_at_call 29; refine SU.out.mono ?_; rintro e w7 ⟨rfl, q7, rfl⟩; have HA3 := ((HA2.out.quiet ((Chg.refl [] _).drewN q7)).behind 73 [.int .i64 0, .int .i64 0, .int .i64 0]); rw [show (World.drewN (w6.alloc (.cells [.int .i64 (y.reads : Int), .int .i64 (y.writes : Int), .int .i64 (y.flushes : Int)].toArray 73)) q7).heap.size = w6.heap.size + 1 from by simp] at HA3; replace HA3 := Lib.hid HA3; have k13 := (HA3.out.get 7 rfl : Blk _ _ _ _).cell (j := 0) rfl; have k15 := (HA3.out.get 7 rfl : Blk _ _ _ _).cell (j := 2) rfl; clear SU HA2))
        go_cut [15, 17] from 82 to 122 (fun _ s17 wx => ∃ (o : Wl.Out) (cv' : Value) (F' : List Nat) (d' : Dk) (B' L' : Nat) (nw nf : Int), s17 = .int .u16 o.err ∧ Hid (CSt es n (j + 1) o.bay o.jn d' B' L') ∧ Hid (CDone y o nw nf) ∧ Hid (Side w2 wx (jts b W D R o.jn cv' o.bay F' [blkT (w6.heap.size + 1) 73 [.int .i64 0, .int .i64 nw, .int .i64 nf], blkT w6.heap.size 73 [.int .i64 (y.reads : Int), .int .i64 (y.writes : Int), .int .i64 (y.flushes : Int)], blkT wr.heap.size 61 [.int .i64 a.kind, .int .i64 a.num, .slice x2 a.pts.length y2, .slice x3 a.keep.length y3]])))
        case first =>
          clear HVN HN
          by_cases k1 : a.kind = 1
          · have CC := Lib.hid (ccall_log HA3.out ST.out HW.out ha.out _ (HP6.out _ ((((Chg.refl [] w6).alloc _).drewN q7).alloc _)) HPB.out)
            obtain ⟨K, hK⟩ : ∃ K, K = costOf (a.pts.length : Int) := ⟨_, rfl⟩
            have hK1 : 0 ≤ K ∧ K ≤ 2047 := by rw [hK]; exact costOf_in _
            have CO : Hid (∀ w', Calls Tryz.prog 26 #[.int .i64 (a.pts.length : Int)] w' fun e w'' => e = .returned (.int .i64 K) ∧ w' = w'') := fun w' => by rw [hK]; exact (cost_any _ w').mono fun e w'' h => ⟨h.1, h.2.symm⟩
            rw [← hK] at CC
            obtain ⟨wa, wb⟩ := sc_wrap (z := K - 1) (by omega) (by omega)
            clear HA3 HP6 HPB hK
            go_wp2_with (first
              | (go_at_call 30; refine CC.out.mono ?_; rintro e w8 ⟨o8, cv8, F8, d8, B8, L8, rfl, S8, D8, H8⟩; have WK := (H8.out.get 5 rfl : Blk _ _ _ _); have z0 := WK.cell (j := 0) rfl; have z1 := WK.cell (j := 1) rfl; have z2 := WK.cell (j := 2) rfl; have y0 := WK.free 0; have y1 := WK.free 1; have y2' := WK.free 2; clear CC WK; have p2 := (H8.out.get 7 rfl : Blk _ _ _ _).cell (j := 2) rfl)
              | (go_at_call 26; refine (CO.out _).mono ?_; rintro e w9 ⟨rfl, rfl⟩))
            go_meet
            exact ⟨o8, cv8, F8, d8, B8, L8, K - 1, 1, rfl, S8, D8, ((H8.out.blkSet 5 rfl 0 _).blkSet 5 rfl 1 _).blkSet 5 rfl 2 _⟩
          have kb1 : (a.kind == 1) = false := by simpa using k1
          by_cases k2 : a.kind = 2
          · have CC := Lib.hid (ccall_seal HA3.out ST.out HW.out ha.out)
            clear HA3 k13 k15 HP6 HPB
            go_wp2_with (go_at_call 31; refine CC.out.mono ?_; rintro e w8 ⟨o8, cv8, F8, d8, B8, L8, rfl, S8, D8, H8⟩; have WK := (H8.out.get 5 rfl : Blk _ _ _ _); have z0 := WK.cell (j := 0) rfl; have z1 := WK.cell (j := 1) rfl; have z2 := WK.cell (j := 2) rfl; have y0 := WK.free 0; have y1 := WK.free 1; have y2' := WK.free 2; clear CC WK)
            go_meet
            exact ⟨o8, cv8, F8, d8, B8, L8, 1, 0, rfl, S8, D8, ((H8.out.blkSet 5 rfl 0 _).blkSet 5 rfl 1 _).blkSet 5 rfl 2 _⟩
          have kb2 : (a.kind == 2) = false := by simpa using k2
          by_cases k3 : a.kind = 3
          · have CC := Lib.hid (ccall_sync HA3.out ST.out HW.out ha.out)
            clear HA3 k13 k15 HP6 HPB
            by_cases hs : J.sure = true
            · rw [if_pos hs] at CC
              go_wp2_with (go_at_call 32; refine CC.out.mono ?_; rintro e w8 ⟨o8, cv8, F8, d8, B8, L8, rfl, S8, D8, H8⟩; have WK := (H8.out.get 5 rfl : Blk _ _ _ _); have z0 := WK.cell (j := 0) rfl; have z1 := WK.cell (j := 1) rfl; have z2 := WK.cell (j := 2) rfl; have y0 := WK.free 0; have y1 := WK.free 1; have y2' := WK.free 2; clear CC WK)
              go_meet
              exact ⟨o8, cv8, F8, d8, B8, L8, 0, 0, rfl, S8, D8, H8⟩
            · rw [if_neg hs] at CC
              have hs' : J.sure = false := by simpa using hs
              go_wp2_with (go_at_call 32; refine CC.out.mono ?_; rintro e w8 ⟨o8, cv8, F8, d8, B8, L8, rfl, S8, D8, H8⟩; have WK := (H8.out.get 5 rfl : Blk _ _ _ _); have z0 := WK.cell (j := 0) rfl; have z1 := WK.cell (j := 1) rfl; have z2 := WK.cell (j := 2) rfl; have y0 := WK.free 0; have y1 := WK.free 1; have y2' := WK.free 2; clear CC WK)
              go_meet
              exact ⟨o8, cv8, F8, d8, B8, L8, 0, 1, rfl, S8, D8, ((H8.out.blkSet 5 rfl 0 _).blkSet 5 rfl 1 _).blkSet 5 rfl 2 _⟩
          have kb3 : (a.kind == 3) = false := by simpa using k3
          by_cases k4 : a.kind = 4
          · have CC := Lib.hid (ccall_reclaim HA3.out ST.out HW.out ha.out)
            clear HA3 k13 k15 HP6 HPB
            go_wp2_with (go_at_call 33; refine CC.out.mono ?_; rintro e w8 ⟨o8, cv8, F8, d8, B8, L8, rfl, S8, D8, H8⟩; have WK := (H8.out.get 5 rfl : Blk _ _ _ _); have z0 := WK.cell (j := 0) rfl; have z1 := WK.cell (j := 1) rfl; have z2 := WK.cell (j := 2) rfl; have y0 := WK.free 0; have y1 := WK.free 1; have y2' := WK.free 2; clear CC WK)
            go_meet
            exact ⟨o8, cv8, F8, d8, B8, L8, 1, 1, rfl, S8, D8, ((H8.out.blkSet 5 rfl 0 _).blkSet 5 rfl 1 _).blkSet 5 rfl 2 _⟩
          have kb4 : (a.kind == 4) = false := by simpa using k4
          by_cases k5 : a.kind = 5
          · have CC := Lib.hid (ccall_renew HA3.out ST.out HW.out ha.out)
            clear HA3 k13 k15 HP6 HPB
            go_wp2_with (go_at_call 34; refine CC.out.mono ?_; rintro e w8 ⟨o8, cv8, F8, d8, B8, L8, rfl, S8, D8, H8⟩; have WK := (H8.out.get 5 rfl : Blk _ _ _ _); have z0 := WK.cell (j := 0) rfl; have z1 := WK.cell (j := 1) rfl; have z2 := WK.cell (j := 2) rfl; have y0 := WK.free 0; have y1 := WK.free 1; have y2' := WK.free 2; clear CC WK)
            go_meet
            exact ⟨o8, cv8, F8, d8, B8, L8, 1, 1, rfl, S8, D8, ((H8.out.blkSet 5 rfl 0 _).blkSet 5 rfl 1 _).blkSet 5 rfl 2 _⟩
          have kb5 : (a.kind == 5) = false := by simpa using k5
          clear HP6 HPB k13 k15
          go_wp2_with fail
          go_meet
          obtain ⟨d8, S8⟩ := ST.out.idle ha.out
          exact ⟨⟨1, y, J⟩, cv, F, d8, _, _, 0, 0, rfl, S8, ⟨rfl, fun q => absurd (show (1 : Int) = 0 from q) (by decide), fun _ => ⟨rfl, rfl⟩⟩, HA3⟩
        case rest =>
          obtain ⟨o8, cv8, F8, d8, B8, L8, nw, nf, rfl, S8, D8, H8⟩ := hcut
          clear HA3 k13 k15 HP6 HPB
          go_upto_if 124 with fail
          go_cut [17] from 125 to 125 (fun _ wx => ∃ mw mf : Int, Hid ((o8.bay.writes : Int) = y.writes + mw ∧ (o8.bay.flushes : Int) = y.flushes + mf) ∧ Hid (Side w2 wx (jts b W D R o8.jn cv8 o8.bay F8 [blkT (w6.heap.size + 1) 73 [.int .i64 0, .int .i64 mw, .int .i64 mf], blkT w6.heap.size 73 [.int .i64 (y.reads : Int), .int .i64 (y.writes : Int), .int .i64 (y.flushes : Int)], blkT wr.heap.size 61 [.int .i64 a.kind, .int .i64 a.num, .slice x2 a.pts.length y2, .slice x3 a.keep.length y3]])))
          case first =>
            clear HVN HN
            by_cases he : o8.err = 0
            · go_wp2_with fail
              go_meet
              exact ⟨nw, nf, (D8.out.2.1 he), H8⟩
            · have WK := (H8.out.get 5 rfl : Blk _ _ _ _)
              have z0 := WK.cell (j := 0) rfl
              have z1 := WK.cell (j := 1) rfl
              have z2 := WK.cell (j := 2) rfl
              have y0 := WK.free 0
              have y1 := WK.free 1
              have y2' := WK.free 2
              clear WK
              go_wp2_with fail
              go_meet
              exact ⟨0, 0, by have := D8.out.2.2 he; exact ⟨by omega, by omega⟩, ((H8.out.blkSet 5 rfl 0 _).blkSet 5 rfl 1 _).blkSet 5 rfl 2 _⟩
          case rest =>
            obtain ⟨mw, mf, E8, G8⟩ := hcut
            clear H8
            have FIT := Lib.hid (S8.out.fit (by have := HN.out; have := (wopW_le HW.out).1; omega))
            have BND := Lib.hid (S8.out.low.mono (S8.out.bound HW.out))
            obtain ⟨S, hS⟩ : ∃ S : Int, S = (o8.jn.S : Int) := ⟨_, rfl⟩
            obtain ⟨U, hU⟩ : ∃ U : Int, U = (o8.jn.u : Int) := ⟨_, rfl⟩
            have hUS : ¬ S < U := by have := FIT.out.used; omega
            have UF : Hid (∀ w' ts', Side w2 w' (jts b W D R o8.jn cv8 o8.bay F8 ts') → Calls Tryz.prog 35 #[.pointer (some ⟨W, 0, none⟩)] w' (Still w' (.int .i64 U))) := fun w' ts' h => by
              rw [hU]
              exact wused_any (h.get 2 rfl) (h.get 3 rfl) FIT.out.rg
            have SF : Hid (∀ w' ts', Side w2 w' (jts b W D R o8.jn cv8 o8.bay F8 ts') → Calls Tryz.prog 36 #[.pointer (some ⟨W, 0, none⟩)] w' (Still w' (.int .i64 S))) := fun w' ts' h => by
              rw [hS]
              exact wsize_any (h.get 2 rfl) (h.get 3 rfl) FIT.out.rg
            obtain ⟨wn, hwn⟩ : ∃ z : Int, z = (o8.bay.writes : Int) := ⟨_, rfl⟩
            obtain ⟨fn, hfn⟩ : ∃ z : Int, z = (o8.bay.flushes : Int) := ⟨_, rfl⟩
            obtain ⟨wa, wb⟩ := sc_wrap (z := wn) (by omega) (by have := BND.out.writes; omega)
            obtain ⟨wc', wd⟩ := sc_wrap (z := fn) (by omega) (by have := BND.out.flushes; omega)
            obtain ⟨yr, hyr⟩ : ∃ z : Int, z = (y.reads : Int) := ⟨_, rfl⟩
            obtain ⟨yw, hyw⟩ : ∃ z : Int, z = (y.writes : Int) := ⟨_, rfl⟩
            obtain ⟨yf, hyf⟩ : ∃ z : Int, z = (y.flushes : Int) := ⟨_, rfl⟩
            have s1 : yw + mw = wn := by have := E8.out; omega
            have s2 : yf + mf = fn := by have := E8.out; omega
            have CN8 := bcounts_any b F8 o8.bay wc (G8.out.get 0 rfl)
            rw [D8.out.1, ← hwn, ← hfn, ← hyr] at CN8
            replace CN8 := Lib.hid CN8
            replace G8 := G8.out
            rw [← hyr, ← hyw, ← hyf] at G8
            replace G8 := Lib.hid G8
            clear hwn hfn hyr hyw hyf hS hU E8 BND
            go_upto_region 45 with (go_at_call 28; refine CN8.out.mono ?_; rintro e w9 ⟨rfl, C9⟩; have G9 := Lib.hid ((G8.out.quiet C9.out).behind 73 [.int .i64 yr, .int .i64 wn, .int .i64 fn]); have n0 := (G9.out.get 5 rfl : Blk _ _ _ _).cell (j := 0) rfl; have n1 := (G9.out.get 5 rfl : Blk _ _ _ _).cell (j := 1) rfl; have n2 := (G9.out.get 5 rfl : Blk _ _ _ _).cell (j := 2) rfl; have z1 := (G9.out.get 6 rfl : Blk _ _ _ _).cell (j := 1) rfl; have z2 := (G9.out.get 6 rfl : Blk _ _ _ _).cell (j := 2) rfl; have a0 := (G9.out.get 7 rfl : Blk _ _ _ _).cell (j := 0) rfl; have a1 := (G9.out.get 7 rfl : Blk _ _ _ _).cell (j := 1) rfl; have a2 := (G9.out.get 7 rfl : Blk _ _ _ _).cell (j := 2) rfl; clear CN8 G8 C9)
            go_wp2_with (first
              | (go_at_call 35; refine (UF.out _ _ G9.out).mono ?_; rintro e wu ⟨rfl, qu, rfl⟩; have G10 := Lib.hid (G9.out.quiet ((Chg.refl [] _).drewN qu)))
              | (go_at_call 36; refine (SF.out _ _ G10.out).mono ?_; rintro e wv ⟨rfl, qv, rfl⟩; have G11 := Lib.hid (G10.out.quiet ((Chg.refl [] _).drewN qv))))
            have hNL : N ≤ 5000 := by have := HN.out; have := (wopW_le HW.out).1; omega
            have hwj : wrap64 ((j : Int) + 1) = (j : Int) + 1 := by unfold wrap64; omega
            rw [hwj]
            refine ⟨⟨j + 1, hlt, by rw [Int.natCast_add]; rfl, ⟨o8.bay, o8.jn, d8, cv8, F8, B8, L8, S8.out, ?_⟩⟩, meas_next hlt⟩
            have G12 := G11.out
            have G13 := G12.less.less.less.less
            rw [World.drewN_drewN] at G13
            exact G13
      · have hj1 : ¬ (j : Int) < N := by omega
        have CE : Hid (Chg [] w wr) := by
          obtain ⟨_, _, _, _, _, _, _, _, H⟩ := Hj.out
          exact CW.out.trans H.chg
        clear Hj
        go_wp2_with fail
        go_ret
        exact ⟨rfl, CE.out⟩

end Go.Proofs.YtaggfbgbmiifaaaGreat
