/-
  WalCosts' walk. By an AI agent.
-/
import Derived.Test.YtaggfbgbmiifaaaGreatBWlKnR
import Derived.Test.YtaggfbgbmiifaaaGreatBWlMuch
import Derived.Test.YtaggfbgbmiifaaaGreatBWlUp
import Derived.Test.YtaggfbgbmiifaaaGreatBByMove
import Derived.Deep.RegionHeld3
namespace Go.Proofs.YtaggfbgbmiifaaaGreat
open Go.RowKit Go.Maps Crc

/-- How a journal stands behind so many ops. -/
structure CSt (es : List WOpD) (n j : Nat) (y : Bay) (J : Wl.Jn) (d : Dk) (B L : Nat) : Prop where
  ok : Wl.Ok y J d B
  b : B ≤ 3 + j
  low : y.Low L
  l : L ≤ 3000 + 3 * wopW es j
  slot : J.slot = 0
  size : J.S = n

theorem CSt.begin {es : List WOpD} {n : Nat} (n5 : 5 ≤ n) (n2 : n ≤ 2048) : ∃ d, CSt es n 0 (Wl.fmtIo (Bay.new [2050]) 0 n 3).1 (Wl.begun 0 n ⟨3, 1, 0⟩ 0 1) d 3 2050 := by
  obtain ⟨_, d, h⟩ := Wl.cost_begin n5 n2
  exact ⟨d, h, Nat.le_refl _, (Wl.fmtIo_low (Bay.new_low [2050]) 0 n 3).mono (by omega), by omega, rfl, rfl⟩

theorem CSt.next {es : List WOpD} {n j : Nat} {y : Bay} {J : Wl.Jn} {d : Dk} {B L nw nf k : Nat} {o : Wl.Out} {a : WOpD} (h : CSt es n j y J d B L) (ha : es[j]? = some a) (c : Wl.Costs y J B o nw nf) (hl : o.bay.Low (L + k)) (hk : k ≤ 3 * a.weight) : ∃ d', CSt es n (j + 1) o.bay o.jn d' (B + 1) (L + k) := by
  obtain ⟨d', ok⟩ := c.ok
  refine ⟨d', ok, by have := h.b; omega, hl, ?_, c.slot.trans h.slot, c.size.trans h.size⟩
  rw [wopW_succ ha]
  have := h.l
  omega

theorem CSt.idle {es : List WOpD} {n j : Nat} {y : Bay} {J : Wl.Jn} {d : Dk} {B L : Nat} {a : WOpD} (h : CSt es n j y J d B L) (ha : es[j]? = some a) : ∃ d', CSt es n (j + 1) y J d' (B + 1) (L + 0) :=
  h.next ha (h.ok.same (e := 1) (by decide) 0 0) h.low (by omega)

theorem CSt.fit {es : List WOpD} {n j : Nat} {y : Bay} {J : Wl.Jn} {d : Dk} {B L : Nat} (h : CSt es n j y J d B L) (hj : j ≤ 100000) : J.Fit := h.ok.fit (by have := h.b; omega)

/-- So many operations more, if it is not refused. -/
def CDone (y : Bay) (o : Wl.Out) (nw nf : Int) : Prop :=
  o.bay.reads = y.reads ∧ (o.err = 0 → (o.bay.writes : Int) = y.writes + nw ∧ (o.bay.flushes : Int) = y.flushes + nf) ∧ (o.err ≠ 0 → o.bay.writes = y.writes ∧ o.bay.flushes = y.flushes)

/-- What a call comes to, in the walk: its error, the journal behind it, and so many operations. -/
def CPost (w0 : World) (es : List WOpD) (n j b W D R : Nat) (y : Bay) (ts : List Thing) (nw nf : Int) (e : Ending) (w' : World) : Prop :=
  ∃ (o : Wl.Out) (cv : Value) (F : List Nat) (d : Dk) (B L : Nat), e = .returned (.int .u16 o.err) ∧ Hid (CSt es n (j + 1) o.bay o.jn d B L) ∧
    Hid (CDone y o nw nf) ∧ Hid (Side w0 w' (jts b W D R o.jn cv o.bay F ts))

theorem wopW_le {es : List WOpD} (h : wopW es es.length ≤ 5000) : es.length ≤ 5000 ∧ ∀ j, wopW es j ≤ 5000 := by
  have h1 : ∀ l : List WOpD, l.length ≤ (l.map WOpD.weight).sum := fun l => by
    induction l with
    | nil => exact Nat.le_refl 0
    | cons a l ih =>
      rw [List.map_cons, List.sum_cons, List.length_cons]
      have : 1 ≤ a.weight := by unfold WOpD.weight; omega
      omega
  have h2 : ∀ (l : List WOpD) (j : Nat), ((l.take j).map WOpD.weight).sum ≤ (l.map WOpD.weight).sum := fun l => by
    induction l with
    | nil => intro j; simp
    | cons a l ih =>
      intro j
      cases j with
      | zero => simp
      | succ j =>
        rw [List.take_succ_cons, List.map_cons, List.sum_cons, List.map_cons, List.sum_cons]
        have := ih j
        omega
  unfold wopW at h ⊢
  rw [List.take_length] at h
  exact ⟨Nat.le_trans (h1 es) h, fun j => Nat.le_trans (h2 es j) h⟩

section
variable {w0 X : World} {es : List WOpD} {n j b W D R : Nat} {y : Bay} {J : Wl.Jn} {d : Dk} {B L : Nat} {cv : Value} {F : List Nat} {ts : List Thing} {a : WOpD}

theorem CSt.bound (h : CSt es n j y J d B L) (hw : wopW es es.length ≤ 5000) : L ≤ 20000 := by
  have := h.l
  have := (wopW_le hw).2 j
  omega

theorem CPost.of {e : Ending} {w' : World} {o : Wl.Out} {nw nf k : Nat} {cv' : Value} {F' : List Nat} (h : CSt es n j y J d B L) (ha : es[j]? = some a) (c : Wl.Costs y J B o nw nf) (hl : o.bay.Low (L + k)) (hk : k ≤ 3 * a.weight) {mw mf : Int} (hm : o.err = 0 → mw = nw ∧ mf = nf) (he : e = .returned (.int .u16 o.err)) (H : Side w0 w' (jts b W D R o.jn cv' o.bay F' ts)) : CPost w0 es n j b W D R y ts mw mf e w' := by
  obtain ⟨d', s⟩ := h.next ha c hl hk
  exact ⟨o, cv', F', d', _, _, he, s, ⟨c.reads, fun q => by have := c.did q; have := hm q; omega, c.no⟩, H⟩

theorem meas_next {N j : Nat} (h : j < N) : N - (intOf (.int .i64 ((j : Int) + 1))).toNat < N - (intOf (.int .i64 (j : Int))).toNat := by
  show N - ((j : Int) + 1).toNat < N - ((j : Int)).toNat
  omega

end

end Go.Proofs.YtaggfbgbmiifaaaGreat

/-
  'begun' and 'calls': a new journal on a bay of two disks, and one of the five calls. By an AI agent.
-/
namespace Go.Proofs.YtaggfbgbmiifaaaGreat
open Go.RowKit Go.Maps Crc

namespace Wl

/-- What one of the five calls comes to. -/
def callJ (y : Bay) (J : Jn) (a : WOpD) : Out :=
  if a.kind = 1 then logJ y J (scErr J.ep J.next a.pts) (a.pts.map pdOf) else
  if a.kind = 2 then sealJ y J else if a.kind = 3 then syncJ y J else if a.kind = 4 then passJ y J J.ep else
  if a.kind = 5 then passJ y J (J.ep + 1) else ⟨0, y, J⟩

/-- A bay of two empty disks, and a new journal on the first. -/
def twoBay (n : Nat) : Bay := Bay.new [((2 + n : Nat) : Int), ((2 + n : Nat) : Int)]
def bgBay (n : Nat) : Bay := (fmtIo (twoBay n) 0 n 1).1
def bgJn (n : Nat) : Jn := begun 0 n ⟨1, 1, 0⟩ 0 1

theorem two_up (n : Nat) (s : Int) (hs : s = 0 ∨ s = 1) : (twoBay n).Up s (Dk.new (2 + n)) := by
  have e : Bay.slotOf ((2 + n : Nat) : Int) = ⟨some ⟨Dk.new (2 + n), none⟩, none, none⟩ := by
    unfold Bay.slotOf
    rw [if_neg (show ¬ ((2 + n : Nat) : Int) = 0 by omega)]
    rfl
  have e2 : twoBay n = ⟨[⟨some ⟨Dk.new (2 + n), none⟩, none, none⟩, ⟨some ⟨Dk.new (2 + n), none⟩, none, none⟩], false, none, 0, 0, 0⟩ := by
    unfold twoBay Bay.new
    rw [List.map_cons, List.map_cons, e]
    rfl
  rw [e2]
  rcases hs with rfl | rfl <;> exact ⟨rfl, rfl, rfl, rfl⟩

theorem bg_up {n : Nat} (n5 : 5 ≤ n) (n2 : n ≤ 2048) : (fmtIo (twoBay n) 0 n 1).2 = 0 ∧ ∃ d', Ok (bgBay n) (bgJn n) d' 3 := by
  have hu : (twoBay n).Up 0 (Dk.new (2 + n)) := two_up n 0 (.inl rfl)
  obtain ⟨d', h1, _, h3, _⟩ := fmt_up (s := 0) (d := Dk.new (2 + n)) (B := 3) (n := n) (ep := 1) hu n5 n2 (by show 2 + n ≤ (List.replicate (2 + n) (List.replicate 128 0)).length; rw [List.length_replicate]; omega) (by decide) ⟨by decide, by decide⟩
  exact ⟨h1, d', h3⟩

end Wl

theorem CSt.bgn {es : List WOpD} {n : Nat} (n5 : 5 ≤ n) (n2 : n ≤ 2048) : ∃ d, CSt es n 0 (Wl.bgBay n) (Wl.bgJn n) d 3 2050 := by
  obtain ⟨_, d, h⟩ := Wl.bg_up n5 n2
  exact ⟨d, h, Nat.le_refl _, (Wl.fmtIo_low (Bay.new_low _) 0 n 1).mono (by omega), by omega, rfl, rfl⟩

/-- The journal stands behind one more call. -/
theorem CSt.call {es : List WOpD} {n j : Nat} {y : Bay} {J : Wl.Jn} {d : Dk} {B L : Nat} {a : WOpD} (h : CSt es n j y J d B L) (ha : es[j]? = some a) (hb : ∀ p ∈ a.pts, By p.d) : ∃ d' B' L', CSt es n (j + 1) (Wl.callJ y J a).bay (Wl.callJ y J a).jn d' B' L' := by
  unfold Wl.callJ
  split
  · have hg : scErr J.ep J.next a.pts = 0 → Sc.Good (a.pts.map pdOf) := fun q => (scErr_zero q hb).2.1
    have low := Wl.logJ_low h.low J (scErr J.ep J.next a.pts) (a.pts.map pdOf)
    rw [List.length_map] at low
    obtain ⟨d', s⟩ := h.next ha (h.ok.logCosts hg) low (by unfold WOpD.weight; omega)
    exact ⟨d', _, _, s⟩
  split
  · obtain ⟨d', s⟩ := h.next ha h.ok.sealCosts (Wl.sealJ_low h.low J) (by unfold WOpD.weight; omega)
    exact ⟨d', _, _, s⟩
  split
  · obtain ⟨d', s⟩ := h.next ha h.ok.syncCosts.2 (Wl.syncJ_low h.low J) (by unfold WOpD.weight; omega)
    exact ⟨d', _, _, s⟩
  split
  · obtain ⟨d', s⟩ := h.next ha (h.ok.passCosts J.ep (Nat.le_succ_of_le h.ok.ep)) (Wl.passJ_low h.low J J.ep) (by unfold WOpD.weight; omega)
    exact ⟨d', _, _, s⟩
  split
  · obtain ⟨d', s⟩ := h.next ha (h.ok.passCosts (J.ep + 1) (by have := h.ok.ep; omega)) (Wl.passJ_low h.low J (J.ep + 1)) (by unfold WOpD.weight; omega)
    exact ⟨d', _, _, s⟩
  · obtain ⟨d', s⟩ := h.idle ha
    exact ⟨d', _, _, s⟩

set_option maxHeartbeats 4000000 in
set_option maxRecDepth 100000 in
theorem calls_any {w0 X : World} {b W D R : Nat} {J : Wl.Jn} {cv : Value} {y : Bay} {F : List Nat} {ts : List Thing} (H : Side w0 X (jts b W D R J cv y F ts)) (hf : J.Fit) (hs : I64 J.slot) (hl : y.Low 999990000)
    (a : WOpD) (h2 : Pts X a.ptsV a.pts) (hb : ∀ p ∈ a.pts, By p.d ∧ Cap p.v) (h3 : ∃ o n c, a.keepV = .slice o n c) :
    Calls Tryz.prog 38 #[.pointer (some ⟨W, 0, none⟩), .agg #[.int .i64 a.kind, .int .i64 a.num, a.ptsV, a.keepV]] X (AnsL w0 b W D R ts (Wl.callJ y J a)) := by
  obtain ⟨o2, c2, e2⟩ := h2.slice
  obtain ⟨o3, n3, c3, e3⟩ := h3
  obtain ⟨wB, hwB⟩ : ∃ wB, wB = X.alloc (.cells #[.int .i64 a.kind, .int .i64 a.num, a.ptsV, a.keepV] 61) := ⟨_, rfl⟩
  have HB : Side w0 wB (jts b W D R J cv y F (blkT X.heap.size 61 [.int .i64 a.kind, .int .i64 a.num, a.ptsV, a.keepV] :: ts)) := by rw [hwB]; exact H.behind _ [_, _, _, _]
  have k0 := (HB.get 5 rfl : Blk _ _ _ _).cell (j := 0) rfl
  have k2 := (HB.get 5 rfl : Blk _ _ _ _).cell (j := 2) rfl
  have hPT : Pts wB a.ptsV a.pts := by rw [hwB]; exact h2.chg ((Chg.refl [] X).alloc _)
  have C1 := Lib.hid (wlog_any HB hf hs hl _ a.pts hPT hb)
  have C2 := Lib.hid (wseal_any HB hf hs (hl.mono (by decide)))
  have C3 := Lib.hid (wsync_any HB hs (hl.mono (by decide)))
  have C4 := Lib.hid (wreclaim_any HB hf hs (hl.mono (by decide)))
  have C5 := Lib.hid (wrenew_any HB hf hs (hl.mono (by decide)))
  have fin : Hid (∀ (o : Wl.Out) e w', AnsL w0 b W D R (blkT X.heap.size 61 [.int .i64 a.kind, .int .i64 a.num, a.ptsV, a.keepV] :: ts) o e w' → AnsL w0 b W D R ts o e w') := fun o e w' ⟨h1, F', cv', h2⟩ => ⟨h1, F', cv', h2.out.less⟩
  have fin2 : Hid (∀ (o : Wl.Out) e w', Ans w0 b W D R cv (blkT X.heap.size 61 [.int .i64 a.kind, .int .i64 a.num, a.ptsV, a.keepV] :: ts) o e w' → AnsL w0 b W D R ts o e w') := fun o e w' ⟨h1, F', h2⟩ => ⟨h1, F', cv, h2.out.less⟩
  have f0 : Hid (AnsL w0 b W D R ts ⟨0, y, J⟩ (.returned (.int .u16 0)) wB) := ⟨rfl, F, cv, HB.less⟩
  clear HB hPT h2 H hf hs hl
  rw [e2] at k2 C1 C2 C3 C4 C5 fin fin2 hwB ⊢
  rw [e3] at C1 C2 C3 C4 C5 fin fin2 hwB ⊢
  clear e2 e3
  subst hwB
  unfold Wl.callJ
  generalize a.kind = k at *
  generalize a.num = num at *
  go_enter Tryz.func38, Tryz.ntmps38
  by_cases q1 : k = 1
  · subst q1
    rw [if_pos rfl]
    go_wp2_with (go_at_call 30; refine C1.out.mono ?_; rintro e w' ⟨rfl, F', cv', h⟩)
    go_ret
    exact fin.out _ _ _ ⟨rfl, F', cv', h⟩
  rw [if_neg q1]
  have b1 : (k == 1) = false := by simpa using q1
  by_cases q2 : k = 2
  · subst q2
    rw [if_pos rfl]
    go_wp2_with (go_at_call 31; refine C2.out.mono ?_; rintro e w' ⟨rfl, F', h⟩)
    go_ret
    exact fin2.out _ _ _ ⟨rfl, F', h⟩
  rw [if_neg q2]
  have b2 : (k == 2) = false := by simpa using q2
  by_cases q3 : k = 3
  · subst q3
    rw [if_pos rfl]
    go_wp2_with (go_at_call 32; refine C3.out.mono ?_; rintro e w' ⟨rfl, F', h⟩)
    go_ret
    exact fin2.out _ _ _ ⟨rfl, F', h⟩
  rw [if_neg q3]
  have b3 : (k == 3) = false := by simpa using q3
  by_cases q4 : k = 4
  · subst q4
    rw [if_pos rfl]
    go_wp2_with (go_at_call 33; refine C4.out.mono ?_; rintro e w' ⟨rfl, F', h⟩)
    go_ret
    exact fin2.out _ _ _ ⟨rfl, F', h⟩
  rw [if_neg q4]
  have b4 : (k == 4) = false := by simpa using q4
  by_cases q5 : k = 5
  · subst q5
    rw [if_pos rfl]
    go_wp2_with (go_at_call 34; refine C5.out.mono ?_; rintro e w' ⟨rfl, F', h⟩)
    go_ret
    exact fin2.out _ _ _ ⟨rfl, F', h⟩
  rw [if_neg q5]
  have b5 : (k == 5) = false := by simpa using q5
  go_wp2_with fail
  go_ret
  exact f0

theorem begun_no (ring : Int) (h : ¬ (5 ≤ ring ∧ ring ≤ 2048)) (w : World) : Calls Tryz.prog 44 #[.int .i64 ring] w fun e w' => e = .returned (.tuple #[.pointer none, .pointer none]) ∧ w = w' := by
  by_cases h1 : ring < 5
  · clear h
    go_enter Tryz.func44, Tryz.ntmps44
    go_wp2_with fail
    go_ret2
    exact ⟨rfl, rfl⟩
  · have h2 : 2048 < ring := by omega
    clear h
    go_enter Tryz.func44, Tryz.ntmps44
    go_wp2_with fail
    go_ret2
    exact ⟨rfl, rfl⟩

/-- A new journal, beside what there is. -/
def BegunW (w0 : World) (n : Nat) (ts : List Thing) (e : Ending) (w' : World) : Prop :=
  ∃ b W D R F, e = .returned (.tuple #[.pointer (some ⟨b, 0, none⟩), .pointer (some ⟨W, 0, none⟩)]) ∧ Hid (Side w0 w' (jts b W D R (Wl.bgJn n) (.slice none 0 0) (Wl.bgBay n) F ts))

set_option maxHeartbeats 4000000 in
set_option maxRecDepth 100000 in
theorem begun_ok {w0 w : World} {ts : List Thing} (H : Side w0 w ts) {n : Nat} (n5 : 5 ≤ n) (n2 : n ≤ 2048) : Calls Tryz.prog 44 #[.int .i64 (n : Int)] w (BegunW w0 n ts) := by
  have etwo : Wl.twoBay n = Bay.new [2 + (n : Int), 2 + (n : Int)] := by unfold Wl.twoBay; rw [Int.natCast_add]; rfl
  have NW : Hid (Calls Tryz.prog 27 #[.slice (some ⟨w.heap.size, 0, none⟩) 2 2] (w.alloc (.cells #[.int .i64 (2 + (n : Int)), .int .i64 (2 + (n : Int))] 3)) fun e w'' => ∃ b F, e = .returned (.tuple #[.pointer (some ⟨b, 0, none⟩), .int .u16 0]) ∧ Hid (Side w0 w'' (BayT b (Wl.twoBay n) F :: ts))) := by
    have BX := Blk.made w [.int .i64 (2 + (n : Int)), .int .i64 (2 + (n : Int))] 3
    refine (bnew_any (.slice (some ⟨w.heap.size, 0, none⟩) 2 2) [2 + (n : Int), 2 + (n : Int)] (w.alloc (.cells #[.int .i64 (2 + (n : Int)), .int .i64 (2 + (n : Int))] 3)) (.inr ⟨_, 0, 2, rfl, BX.lt, fun j u hj => by rw [Nat.zero_add]; exact BX.cell hj⟩) (fun z hz => by
      have : z = 2 + (n : Int) := by simpa using hz
      rw [this]
      constructor <;> omega) (by show (2 : Nat) ≤ _; decide)).mono ?_
    rintro e w1 (⟨hno, _⟩ | ⟨_, b, F, h1, D, N, C⟩)
    · refine absurd (Bay.newErr_good (by show (1 : Nat) ≤ 2; decide) (by show (2 : Nat) ≤ 17; decide) (fun z hz => ?_)) hno
      have : z = 2 + (n : Int) := by simpa using hz
      omega
    · rw [etwo]
      exact ⟨b, F, h1, (H.quiet ((Chg.refl [] w).alloc _)).add C.out D.out (fun k hk => by have := N.out k hk; simp at this; simp; omega)⟩
  have FM : Hid (∀ w' b F, Side w0 w' (BayT b (Wl.twoBay n) F :: ts) → Calls Tryz.prog 15 #[.pointer (some ⟨b, 0, none⟩), .int .i64 0, .int .i64 (n : Int), .int .u64 1] w' (Fmtd w0 b (Wl.twoBay n) 0 (n : Int) 1 ts)) := fun w' b F h => wformat_any h 0 (n : Int) ⟨by decide, by decide⟩ ⟨by omega, by omega⟩ 1 (by decide) ((Bay.new_low _).mono (by decide))
  obtain ⟨wa, wb⟩ := sc_wrap (z := 2 + (n : Int)) (by omega) (by omega)
  have h1 : ¬ (n : Int) < 5 := by omega
  have h2 : ¬ (2048 : Int) < (n : Int) := by omega
  clear H etwo
  go_enter Tryz.func44, Tryz.ntmps44
  go_wp2_with (go_at_call 27; refine NW.out.mono ?_; rintro e w1 ⟨b, F, rfl, H1⟩; have FM1 := Lib.hid (FM.out _ _ _ H1.out); clear NW FM)
  refine FM1.out.mono ?_
  rintro e w2 (⟨hno, _⟩ | ⟨_, m, hm, _, _, ⟨hno, _⟩ | ⟨_, W, D, R, F2, rfl, H2⟩⟩)
  · exact absurd ⟨by decide, by omega, by omega⟩ hno
  · obtain rfl : n = m := by omega
    exact absurd (Wl.bg_up n5 n2).1 hno
  · obtain rfl : n = m := by omega
    clear FM1
    go_wp2_with fail
    go_ret2
    exact ⟨b, W, D, R, F2, rfl, H2⟩

end Go.Proofs.YtaggfbgbmiifaaaGreat

/-
  Two journals side by side, and what a refused call leaves. By an AI agent.
-/
namespace Go.Proofs.YtaggfbgbmiifaaaGreat
open Go.RowKit Go.Maps Crc

section
variable {w0 w : World} {b W D R c V D' R' : Nat} {J J' : Wl.Jn} {cv cv' : Value} {y y' : Bay} {F F' : List Nat} {ts : List Thing}

/-- The other one ahead. -/
theorem Side.jswap (H : Side w0 w (jts b W D R J cv y F (jts c V D' R' J' cv' y' F' ts))) : Side w0 w (jts c V D' R' J' cv' y' F' (jts b W D R J cv y F ts)) :=
  H.perm (by
    show ([BayT b y F, devT D b J.slot J.br, walT W D R J cv, ringT R J.S J.t J.u, comT cv J.commit] ++ ([BayT c y' F', devT D' c J'.slot J'.br, walT V D' R' J' cv', ringT R' J'.S J'.t J'.u, comT cv' J'.commit] ++ ts)).Perm
      ([BayT c y' F', devT D' c J'.slot J'.br, walT V D' R' J' cv', ringT R' J'.S J'.t J'.u, comT cv' J'.commit] ++ ([BayT b y F, devT D b J.slot J.br, walT W D R J cv, ringT R J.S J.t J.u, comT cv J.commit] ++ ts))
    rw [← List.append_assoc, ← List.append_assoc]
    exact List.Perm.append_right _ List.perm_append_comm)

/-- A block more, behind both. -/
theorem Side.behind2 (H : Side w0 w (jts b W D R J cv y F (jts c V D' R' J' cv' y' F' ts))) (ty : TypeId) (vs : List Value) : Side w0 (w.alloc (.cells vs.toArray ty)) (jts b W D R J cv y F (jts c V D' R' J' cv' y' F' (blkT w.heap.size ty vs :: ts))) :=
  (H.newBlk ty vs).perm (by
    show ([blkT w.heap.size ty vs] ++ ([BayT b y F, devT D b J.slot J.br, walT W D R J cv, ringT R J.S J.t J.u, comT cv J.commit, BayT c y' F', devT D' c J'.slot J'.br, walT V D' R' J' cv', ringT R' J'.S J'.t J'.u, comT cv' J'.commit] ++ ts)).Perm
      ([BayT b y F, devT D b J.slot J.br, walT W D R J cv, ringT R J.S J.t J.u, comT cv J.commit, BayT c y' F', devT D' c J'.slot J'.br, walT V D' R' J' cv', ringT R' J'.S J'.t J'.u, comT cv' J'.commit] ++ ([blkT w.heap.size ty vs] ++ ts))
    rw [← List.append_assoc, ← List.append_assoc]
    exact List.Perm.append_right _ List.perm_append_comm)

end

/-- A Log that is refused leaves all as it was. -/
theorem Wl.Ok.log_refused {y : Bay} {J : Wl.Jn} {d : Dk} {B : Nat} (h : Wl.Ok y J d B) {e : Int} {l : List Pd} (hn : e ≠ 0 ∨ J.S - J.u < 2 * l.length + 1) : ∃ e', e' ≠ 0 ∧ (e ≠ 0 → e' = e) ∧ Wl.logJ y J e l = ⟨e', y, J⟩ := by
  have h0 : Wl.logErr J e l.length ≠ 0 ∧ (e ≠ 0 → Wl.logErr J e l.length = e) := by
    unfold Wl.logErr
    rw [if_neg (fun q => q h.br)]
    by_cases he : e ≠ 0
    · rw [if_pos he]
      exact ⟨he, fun _ => rfl⟩
    · rw [if_neg he]
      refine ⟨?_, fun q => absurd q he⟩
      split
      · decide
      · rw [if_pos (by rcases hn with q | q; exact absurd q he; exact q)]
        decide
  exact ⟨_, h0.1, h0.2, h.log_no h0.1⟩

/-- No other disk is to come into the journal's slot. -/
def NoCome (y : Bay) (s : Int) : Prop := (y.slots[s.toNat]?).bind (·.coming) = none

/-- What is to come into the slots is the same. -/
def Calm (y y' : Bay) : Prop := y'.slots.map (·.coming) = y.slots.map (·.coming)

theorem Calm.trans {y y1 y2 : Bay} (h : Calm y y1) (k : Calm y1 y2) : Calm y y2 := Eq.trans k h

theorem Calm.none {y y' : Bay} (h : Calm y y') {s : Int} (hc : NoCome y s) : NoCome y' s := by
  have e := congrArg (fun l => l[s.toNat]?) h
  simp only [List.getElem?_map] at e
  unfold NoCome at hc ⊢
  cases h1 : y.slots[s.toNat]? with
  | none =>
    rw [h1] at e
    cases h2 : y'.slots[s.toNat]? with
    | none => rfl
    | some x => rw [h2] at e; cases e
  | some x =>
    rw [h1] at e hc
    cases h2 : y'.slots[s.toNat]? with
    | none => rfl
    | some x' =>
      rw [h2] at e
      have e : x'.coming = x.coming := Option.some.inj e
      show x'.coming = Option.none
      rw [e]
      exact hc

theorem Calm.setIn (y : Bay) (s : Int) (d : Dev) : Calm y (y.setIn s d) := by
  show (y.slots.modify s.toNat (fun x => { x with inn := some d })).map (·.coming) = y.slots.map (·.coming)
  apply List.ext_getElem?
  intro i
  rw [List.getElem?_map, List.getElem?_map, List.getElem?_modify]
  cases y.slots[i]? with
  | none => rfl
  | some x =>
    by_cases q : s.toNat = i
    · simp [q]
    · simp [q]

theorem Calm.start (y : Bay) (s : Int) (what : Nat) : Calm y (y.start s what) := by
  unfold Bay.start
  split
  · rfl
  split
  · rfl
  split
  · rfl
  split
  · rfl
  · exact Calm.setIn (y.counted what) s _

theorem Calm.write (y : Bay) (s at_ : Int) (x : List Nat) : Calm y (y.write s at_ x) := by
  unfold Bay.write
  split
  · exact Calm.setIn (y.counted 2) s _
  · exact Calm.start y s 2

theorem Calm.flush (y : Bay) (s : Int) : Calm y (y.flush s) := by
  unfold Bay.flush
  split
  · exact Calm.setIn (y.counted 3) s _
  · exact Calm.start y s 3

theorem Calm.wr (s : Int) (io : Wl.Io) (at_ : Int) (x : List Nat) : Calm io.1 (Wl.wr s io at_ x).1 := by
  unfold Wl.wr
  split
  · exact Calm.write _ _ _ _
  · rfl

theorem Calm.fl (s : Int) (io : Wl.Io) : Calm io.1 (Wl.fl s io).1 := by
  unfold Wl.fl
  split
  · exact Calm.flush _ _
  · rfl

theorem Calm.wrs (s : Int) : ∀ (ws : List (Nat × List Nat)) (io : Wl.Io), Calm io.1 (Wl.wrs s io ws).1
  | [], _ => rfl
  | w :: ws, io => (Calm.wr s io (w.1 : Int) w.2).trans (Calm.wrs s ws (Wl.wr s io (w.1 : Int) w.2))

theorem Calm.fmt (y : Bay) (s : Int) (n ep : Nat) : Calm y (Wl.fmtIo y s n ep).1 := ((Calm.wrs s _ (y, 0)).trans (Calm.wr s _ _ _)).trans (Calm.fl s _)

theorem Calm.pass (y : Bay) (J : Wl.Jn) (ep : Nat) : Calm y (Wl.passJ y J ep).bay := by
  unfold Wl.passJ
  split
  · rfl
  split
  · rfl
  split
  · rfl
  · rw [Wl.ends_bay]
    exact (Calm.wr J.slot (y, J.br) _ _).trans (Calm.fl J.slot _)

theorem Calm.call (y : Bay) (J : Wl.Jn) (a : WOpD) : Calm y (Wl.callJ y J a).bay := by
  unfold Wl.callJ
  split
  · unfold Wl.logJ
    split
    · rfl
    · rw [Wl.ends_bay]
      exact (Calm.wrs J.slot _ (y, J.br)).trans (Calm.fl J.slot _)
  split
  · unfold Wl.sealJ
    split
    · rfl
    split
    · rfl
    · rw [Wl.ends_bay]
      exact Calm.wr J.slot (y, J.br) _ _
  split
  · unfold Wl.syncJ
    split
    · rfl
    · rw [Wl.ends_bay]
      exact Calm.fl J.slot (y, J.br)
  split
  · exact Calm.pass y J _
  split
  · exact Calm.pass y J _
  · rfl

theorem bg_come {n : Nat} (n5 : 5 ≤ n) (n2 : n ≤ 2048) : NoCome (Wl.bgBay n) 0 ∧ NoCome (Wl.bgBay n) 1 ∧ (Wl.bgBay n).Up 1 (Dk.new (2 + n)) := by
  have e2 : Wl.twoBay n = ⟨[⟨some ⟨Dk.new (2 + n), none⟩, none, none⟩, ⟨some ⟨Dk.new (2 + n), none⟩, none, none⟩], false, none, 0, 0, 0⟩ := by
    have e : Bay.slotOf ((2 + n : Nat) : Int) = ⟨some ⟨Dk.new (2 + n), none⟩, none, none⟩ := by
      unfold Bay.slotOf
      rw [if_neg (show ¬ ((2 + n : Nat) : Int) = 0 by omega)]
      rfl
    unfold Wl.twoBay Bay.new
    rw [List.map_cons, List.map_cons, e]
    rfl
  obtain ⟨d', _, h2, _, _⟩ := Wl.fmt_up (s := 0) (d := Dk.new (2 + n)) (B := 3) (n := n) (ep := 1) (Wl.two_up n 0 (.inl rfl)) n5 n2 (by show 2 + n ≤ (List.replicate (2 + n) (List.replicate 128 0)).length; rw [List.length_replicate]; omega) (by decide) ⟨by decide, by decide⟩
  have c := Calm.fmt (Wl.twoBay n) 0 n 1
  have hu := Wl.two_up n 1 (.inr rfl)
  exact ⟨c.none (by unfold NoCome; rw [e2]; rfl), c.none (by unfold NoCome; rw [e2]; rfl), (h2.other 1 (by decide)).trans hu.dev, hu.bad, h2.up.dark, h2.up.trip⟩

/-- What a disk has once the power has been away. -/
def cutIm (d : Dk) : List Nat := ((Dk.kept [] 0 d.cache).foldl Dk.lay d.last).flatten

theorem cut_there {y : Bay} {d : Dk} (h : y.Up 0 d) (hc : NoCome y 0) : (y.cut []).there 0 = 0 ∧ (y.cut []).image 0 = cutIm d := by
  obtain ⟨k, _⟩ := Wl.up_cut h hc []
  refine ⟨?_, ?_⟩
  · unfold Bay.there
    rw [k.is, k.dev, if_neg (by decide)]
    rfl
  · unfold Bay.image
    rw [k.dev]
    show Dk.image ({ d with last := (Dk.kept [] 0 d.cache).foldl Dk.lay d.last, cache := [] } : Dk) = _
    rw [Dk.image_ok (show ({ d with last := (Dk.kept [] 0 d.cache).foldl Dk.lay d.last, cache := [] } : Dk).bad = false from h.bad)]
    rfl

/-- A list of patches of no bytes. -/
def longL (n : Nat) : List Pv := List.replicate n (⟨0, 0, []⟩, .slice none 0 0)

theorem long_pts {w : World} {v : Value} {n : Nat} (n2 : n ≤ 2048) (h : (listT v (longL n)).P w) : Pts w v ((longL n).map toPt) :=
  pts_of2 h (fun p hp => by
    obtain rfl := (List.mem_replicate.1 hp).2
    exact ⟨5, World.ownsRow_nil _ _ _ _⟩) (by unfold longL; rw [List.length_replicate]; omega) (fun p hp => by
    obtain rfl := (List.mem_replicate.1 hp).2
    decide)

theorem long_by (n : Nat) : ∀ p ∈ (longL n).map toPt, By p.d ∧ Cap p.v := fun p hp => by
  obtain ⟨q, hq, rfl⟩ := List.mem_map.1 hp
  obtain rfl := (List.mem_replicate.1 hq).2
  exact ⟨fun x hx => (by cases hx), fun ao n c e => by cases e; exact Nat.le_refl _⟩

theorem long_err {n ep sq : Nat} (n5 : 5 ≤ n) : scErr ep sq ((longL n).map toPt) ≠ 0 := fun h => by
  have hg := (scErr_zero h (fun p hp => (long_by n p hp).1)).2.1
  have hm : (⟨0, 0, []⟩ : Pd) ∈ ((longL n).map toPt).map pdOf := by
    rw [List.map_map]
    exact List.mem_map.2 ⟨(⟨0, 0, []⟩, .slice none 0 0), List.mem_replicate.2 ⟨by omega, rfl⟩, rfl⟩
  have := (hg.2.2 _ hm).2.2.1
  cases this

theorem nil_err (ep sq : Nat) : scErr ep sq [] = 1 := rfl

theorem wl_disk_len {d : Dk} (h : d.Fit) : d.last.flatten.length ≤ 1048576 := by
  have e : ∀ l : List (List Nat), (∀ s ∈ l, s.length = 128) → l.flatten.length = l.length * 128 := fun l => by
    induction l with
    | nil => intro _; rfl
    | cons x l ih =>
      intro hl
      rw [List.flatten_cons, List.length_append, ih (fun s hs => hl s (List.mem_cons_of_mem _ hs)), hl x List.mem_cons_self, List.length_cons]
      omega
  rw [e _ (fun s hs => (h.sec s hs).1)]
  have := h.hi
  omega

theorem wl_image_len {w : World} {b : Nat} {F : List Nat} {y : Bay} (h : (BayT b y F).P w) (s : Int) : (y.image s).length ≤ 1048576 := by
  have h1 : BayIn w b F y := h
  unfold Bay.image
  split
  · rename_i d hd
    obtain ⟨x, hx, hi⟩ : ∃ x ∈ y.slots, x.inn = some d := by
      unfold Bay.dev at hd
      split at hd
      · obtain ⟨x, hx, hd⟩ := Option.bind_eq_some_iff.1 hd
        exact ⟨x, List.mem_of_getElem? hx, hd⟩
      · cases hd
    have hf := (h1.fit.devs x hx d (.inl hi)).1
    unfold Dk.image
    split
    · simp
    · exact wl_disk_len hf
  · simp

end Go.Proofs.YtaggfbgbmiifaaaGreat

/-
  WalRefuses' walk. By an AI agent.
-/
namespace Go.Proofs.YtaggfbgbmiifaaaGreat
open Go.RowKit Go.Maps Crc

theorem info_wpatch : (Tryz.prog.info? 105).map (fun i => (i.zero, i.size, i.bytes)) = some (some (.agg #[.int .i64 0, .int .i64 0, .slice none 0 0]), 3, 40) := by kernel_rfl

theorem made_long (n : Nat) : (madeCells (Value.agg #[.int .i64 0, .int .i64 0, .slice none 0 0]).cells (n * 3)).toList = ((longL n).map pvSlot).flatten := by
  have hl : ((longL n).map pvSlot).flatten.length = n * 3 := by rw [flat3_len]; unfold longL; rw [List.length_replicate]
  apply List.ext_getElem?
  intro j
  by_cases hj : j < n * 3
  · have hx : ((longL n).map pvSlot)[j / 3]? = some [.int .i64 0, .int .i64 0, .slice none 0 0] := by
      unfold longL
      rw [List.map_replicate, List.getElem?_replicate, if_pos (by omega)]
      rfl
    have hm : j % 3 < 3 := Nat.mod_lt _ (by decide)
    have hd : j / 3 * 3 + j % 3 = j := by omega
    have h3 : j % 3 = 0 ∨ j % 3 = 1 ∨ j % 3 = 2 := by omega
    rcases h3 with h | h | h
    · have := flat_at (pv_slots (longL n)) hx (r := 0) (u := .int .i64 0) rfl
      rw [show j / 3 * 3 + 0 = j by omega] at this
      rw [this]
      simp [madeCells, Value.cells, hj, h]
    · have := flat_at (pv_slots (longL n)) hx (r := 1) (u := .int .i64 0) rfl
      rw [show j / 3 * 3 + 1 = j by omega] at this
      rw [this]
      simp [madeCells, Value.cells, hj, h]
    · have := flat_at (pv_slots (longL n)) hx (r := 2) (u := .slice none 0 0) rfl
      rw [show j / 3 * 3 + 2 = j by omega] at this
      rw [this]
      simp [madeCells, Value.cells, hj, h]
  · rw [List.getElem?_eq_none (l := ((longL n).map pvSlot).flatten) (by rw [hl]; omega)]
    simp [madeCells, hj]

theorem neq_cnt3 (r x f : Int) (w : World) : (binOp .neq 73 (.agg #[.int .i64 r, .int .i64 x, .int .i64 f]) (.agg #[.int .i64 r, .int .i64 x, .int .i64 f])).run Tryz.prog w = .ok (.bool false) w := by
  go_simp

/-- How a new journal stands behind so many ops, and no other disk is to come. -/
def FSt (es : List WOpD) (n j : Nat) (y : Bay) (J : Wl.Jn) : Prop := ∃ d B Lw, CSt es n j y J d B Lw ∧ NoCome y 0

theorem FSt.begin {es : List WOpD} {n : Nat} (n5 : 5 ≤ n) (n2 : n ≤ 2048) : FSt es n 0 (Wl.bgBay n) (Wl.bgJn n) := by
  obtain ⟨d, s⟩ := CSt.bgn (es := es) n5 n2
  exact ⟨d, _, _, s, (bg_come n5 n2).1⟩

section
variable {es : List WOpD} {n j : Nat} {y : Bay} {J : Wl.Jn} {a : WOpD}

theorem FSt.call (h : FSt es n j y J) (ha : es[j]? = some a) (hb : ∀ p ∈ a.pts, By p.d) : FSt es n (j + 1) (Wl.callJ y J a).bay (Wl.callJ y J a).jn := by
  obtain ⟨d, B, Lw, s, k⟩ := h
  obtain ⟨d', B', L', s'⟩ := s.call ha hb
  exact ⟨d', B', L', s', (Calm.call y J a).none k⟩

theorem FSt.low (h : FSt es n j y J) (hw : wopW es es.length ≤ 5000) : y.Low 20000 := by
  obtain ⟨d, B, Lw, s, k⟩ := h
  exact s.low.mono (s.bound hw)

theorem FSt.fit (h : FSt es n j y J) (hj : j ≤ 100000) : J.Fit ∧ J.slot = 0 ∧ J.S = n ∧ J.u ≤ n ∧ J.next ≤ 200000 := by
  obtain ⟨d, B, Lw, s, k⟩ := h
  exact ⟨s.fit hj, s.slot, s.size, by have := s.ok.used; have := s.size; omega, by have := s.ok.next; have := s.b; omega⟩

theorem FSt.no (h : FSt es n j y J) (l : List PtD) (hn : scErr J.ep J.next l ≠ 0 ∨ J.S - J.u < 2 * l.length + 1) : ∃ e', e' ≠ 0 ∧ (scErr J.ep J.next l ≠ 0 → e' = scErr J.ep J.next l) ∧ Wl.logJ y J (scErr J.ep J.next l) (l.map pdOf) = ⟨e', y, J⟩ := by
  obtain ⟨d, B, Lw, s, k⟩ := h
  exact s.ok.log_refused (by rw [List.length_map]; exact hn)

theorem FSt.cut (h : FSt es n j y J) : (y.cut []).there 0 = 0 := by
  obtain ⟨d, B, Lw, s, k⟩ := h
  have u := s.ok.up
  rw [s.slot] at u
  exact (cut_there u k).1

end

theorem wl_sl2 {w : World} {t : TypeId} {u : Value} {xs : List Nat} (h : (ownT t u ((ints xs).map (Value.int .u8))).P w) : Sl w u (ints xs) := Sl.owned h

/-- And another one beside it. -/
def RTwo (w0 : World) (b W D R : Nat) (J : Wl.Jn) (y : Bay) (c V D' R' : Nat) (J' : Wl.Jn) (y' : Bay) (ts : List Thing) (w' : World) : Prop := ∃ cv F cv' F', Side w0 w' (jts b W D R J cv y F (jts c V D' R' J' cv' y' F' ts))

/-- A value comes back, and this holds then. -/
def RGive (S K : World → Prop) (v : Value) (e : Ending) (w' : World) : Prop := e = .returned v ∧ Hid (K w') ∧ Hid (S w')

section
variable {w0 : World} {b W D R c V D' R' : Nat} {J J' : Wl.Jn} {y y' : Bay} {ts : List Thing} {K : World → Prop}

theorem RTwo.swap {w' : World} (h : RTwo w0 b W D R J y c V D' R' J' y' ts w') : RTwo w0 c V D' R' J' y' b W D R J y ts w' := by
  obtain ⟨cv, F, cv', F', H⟩ := h
  exact ⟨cv', F', cv, F, H.jswap⟩

theorem rtwo_log (hK : ∀ w', RTwo w0 b W D R J y c V D' R' J' y' ts w' → K w') {w' : World} (h : RTwo w0 b W D R J y c V D' R' J' y' ts w') (hf : J.Fit) (hs : I64 J.slot) (hl : y.Low 999990000) (v : Value) (l : List PtD) (hv : Pts w' v l) (hb : ∀ p ∈ l, By p.d ∧ Cap p.v) {e' : Int} (he : Wl.logJ y J (scErr J.ep J.next l) (l.map pdOf) = ⟨e', y, J⟩) :
    Calls Tryz.prog 30 #[.pointer (some ⟨W, 0, none⟩), v] w' (RGive (RTwo w0 b W D R J y c V D' R' J' y' ts) K (.int .u16 e')) := by
  obtain ⟨cv, F, cv', F', H⟩ := h
  refine (wlog_any H hf hs hl v l hv hb).mono ?_
  rintro e w'' ⟨h1, F2, cv2, h2⟩
  rw [he] at h1 h2
  have h3 : RTwo w0 b W D R J y c V D' R' J' y' ts w'' := ⟨cv2, F2, cv', F', h2.out⟩
  exact ⟨h1, hK _ h3, h3⟩

theorem rtwo_quiet {w' w'' : World} (h : RTwo w0 b W D R J y c V D' R' J' y' ts w') (q : Chg [] w' w'') : RTwo w0 b W D R J y c V D' R' J' y' ts w'' := by
  obtain ⟨cv, F, cv', F', H⟩ := h
  exact ⟨cv, F, cv', F', H.quiet q⟩

theorem RTwo.behind {w' : World} (h : RTwo w0 b W D R J y c V D' R' J' y' ts w') (ty : TypeId) (vs : List Value) : RTwo w0 b W D R J y c V D' R' J' y' (blkT w'.heap.size ty vs :: ts) (w'.alloc (.cells vs.toArray ty)) := by
  obtain ⟨cv, F, cv', F', H⟩ := h
  exact ⟨cv, F, cv', F', H.behind2 ty vs⟩

theorem RTwo.chg {w' : World} (h : RTwo w0 b W D R J y c V D' R' J' y' ts w') : Chg [] w0 w' := by
  obtain ⟨cv, F, cv', F', H⟩ := h
  exact H.chg

theorem RTwo.rest {w' : World} {t : Thing} (h : RTwo w0 b W D R J y c V D' R' J' y' (t :: ts) w') : t.P w' ∧ RTwo w0 b W D R J y c V D' R' J' y' ts w' := by
  obtain ⟨cv, F, cv', F', H⟩ := h
  exact ⟨H.get 10 rfl, cv, F, cv', F', H.sub (.cons_cons _ (.cons_cons _ (.cons_cons _ (.cons_cons _ (.cons_cons _ (.cons_cons _ (.cons_cons _ (.cons_cons _ (.cons_cons _ (.cons_cons _ (.cons _ (List.Sublist.refl _))))))))))))⟩

theorem rtwo_counts (hK : ∀ w', RTwo w0 b W D R J y c V D' R' J' y' ts w' → K w') {w' : World} (h : RTwo w0 b W D R J y c V D' R' J' y' ts w') :
    Calls Tryz.prog 28 #[.pointer (some ⟨b, 0, none⟩)] w' (RGive (RTwo w0 b W D R J y c V D' R' J' y' ts) K (.agg #[.int .i64 (y.reads : Int), .int .i64 (y.writes : Int), .int .i64 (y.flushes : Int)])) := by
  have h0 := h
  obtain ⟨cv, F, cv', F', H⟩ := h0
  refine (bcounts_any b F y w' (H.get 0 rfl)).mono ?_
  rintro e w'' ⟨h1, h2⟩
  exact ⟨h1, hK _ (rtwo_quiet h h2.out), rtwo_quiet h h2.out⟩

theorem rtwo_still (hK : ∀ w', RTwo w0 b W D R J y c V D' R' J' y' ts w' → K w') {w' : World} (h : RTwo w0 b W D R J y c V D' R' J' y' ts w') {fn : Nat} {args : Array Value} {v : Value} (k : Calls Tryz.prog fn args w' (Still w' v)) : Calls Tryz.prog fn args w' (RGive (RTwo w0 b W D R J y c V D' R' J' y' ts) K v) := by
  refine k.mono ?_
  rintro e w'' ⟨h1, q, rfl⟩
  have h2 := rtwo_quiet h ((Chg.refl [] w').drewN q)
  exact ⟨h1, hK _ h2, h2⟩

theorem rtwo_used (hK : ∀ w', RTwo w0 b W D R J y c V D' R' J' y' ts w' → K w') {w' : World} (h : RTwo w0 b W D R J y c V D' R' J' y' ts w') (hf : J.Fit) : Calls Tryz.prog 35 #[.pointer (some ⟨W, 0, none⟩)] w' (RGive (RTwo w0 b W D R J y c V D' R' J' y' ts) K (.int .i64 (J.u : Int))) := by
  have h0 := h
  obtain ⟨cv, F, cv', F', H⟩ := h0
  exact rtwo_still hK h (wused_any (H.get 2 rfl) (H.get 3 rfl) hf.rg)

theorem rtwo_next (hK : ∀ w', RTwo w0 b W D R J y c V D' R' J' y' ts w' → K w') {w' : World} (h : RTwo w0 b W D R J y c V D' R' J' y' ts w') : Calls Tryz.prog 43 #[.pointer (some ⟨W, 0, none⟩)] w' (RGive (RTwo w0 b W D R J y c V D' R' J' y' ts) K (.int .u64 (J.next : Int))) := by
  have h0 := h
  obtain ⟨cv, F, cv', F', H⟩ := h0
  exact rtwo_still hK h (wnext_any (H.get 2 rfl))

theorem rtwo_sure (hK : ∀ w', RTwo w0 b W D R J y c V D' R' J' y' ts w' → K w') {w' : World} (h : RTwo w0 b W D R J y c V D' R' J' y' ts w') : Calls Tryz.prog 29 #[.pointer (some ⟨W, 0, none⟩)] w' (RGive (RTwo w0 b W D R J y c V D' R' J' y' ts) K (.bool J.sure)) := by
  have h0 := h
  obtain ⟨cv, F, cv', F', H⟩ := h0
  exact rtwo_still hK h (wsure_any (H.get 2 rfl))

theorem rtwo_call (a : WOpD) (hK : ∀ w', RTwo w0 b W D R (Wl.callJ y J a).jn (Wl.callJ y J a).bay c V D' R' J' y' ts w' → K w') {w' : World} (h : RTwo w0 b W D R J y c V D' R' J' y' ts w') (hf : J.Fit) (hs : I64 J.slot) (hl : y.Low 999990000) (h2 : Pts w' a.ptsV a.pts) (hb : ∀ p ∈ a.pts, By p.d ∧ Cap p.v) (h3 : ∃ o n c, a.keepV = .slice o n c) :
    Calls Tryz.prog 38 #[.pointer (some ⟨W, 0, none⟩), .agg #[.int .i64 a.kind, .int .i64 a.num, a.ptsV, a.keepV]] w' (RGive (RTwo w0 b W D R (Wl.callJ y J a).jn (Wl.callJ y J a).bay c V D' R' J' y' ts) K (.int .u16 (Wl.callJ y J a).err)) := by
  obtain ⟨cv, F, cv', F', H⟩ := h
  refine (calls_any H hf hs hl a h2 hb h3).mono ?_
  rintro e w'' ⟨h1, F2, cv2, h2⟩
  have h3 : RTwo w0 b W D R (Wl.callJ y J a).jn (Wl.callJ y J a).bay c V D' R' J' y' ts w'' := ⟨cv2, F2, cv', F', h2.out⟩
  exact ⟨h1, hK _ h3, h3⟩

end

set_option maxHeartbeats 4000000 in
set_option maxRecDepth 10000000 in
theorem wrefuses_any (w : World) (ring : Int) (hr : I64 ring) (v : Value) (es : List WOpD) (hv : WOps w v es) (pv : Value) (ps : List PtD) (hp : Pts w pv ps) (hpb : ∀ p ∈ ps, By p.d ∧ Cap p.v) : Calls Tryz.prog 10 #[.int .i64 ring, v, pv] w fun e w' => e = .returned (.bool true) ∧ Chg [] w w' := by
  have MU := Lib.hid (wmuch_any v es w hv)
  have HVS : Hid (∀ w', Chg [] w w' → WOps w' v es) := fun w' c => hv.chg c
  have HPS : Hid (∀ w', Chg [] w w' → Pts w' pv ps) := fun w' c => hp.chg c
  have HPB0 := Lib.hid hpb
  have KN : Hid (∀ w', Calls Tryz.prog 14 #[] w' fun e w'' => e = .returned (.bool true) ∧ Hid (Chg [] w' w'')) := wknown_any
  obtain ⟨vo, vc, rfl⟩ := hv.slice
  obtain ⟨po, pc, rfl⟩ := hp.slice
  clear hv hp hpb
  go_enter Tryz.func10, Tryz.ntmps10
  go_wp2_with fail
  refine MU.out.mono ?_
  rintro e w1 ⟨mb, rfl, hsm, q, rfl⟩
  replace hsm := Lib.hid hsm
  clear MU
  cases mb with
  | true =>
    go_wp2_with fail
    go_ret
    exact ⟨rfl, (Chg.refl [] w).drewN q⟩
  | false =>
  have HW : Hid (wopW es es.length ≤ 5000) := hsm.out rfl
  clear hsm
  obtain ⟨w2, hw2⟩ : ∃ w2, w2 = w.drewN q := ⟨_, rfl⟩
  have CW0 : Hid (Chg [] w w2) := by rw [hw2]; exact (Chg.refl [] w).drewN q
  rw [← hw2]
  clear hw2
  have MU2 : Hid (Calls Tryz.prog 12 #[.slice (some ⟨w2.heap.size, 0, none⟩) 1 1] (w2.alloc (.cells #[.int .i64 0, .int .i64 0, .slice po ps.length pc, .slice none 0 0] 61)) (WMuch (w2.alloc (.cells #[.int .i64 0, .int .i64 0, .slice po ps.length pc, .slice none 0 0] 61)) [⟨0, 0, .slice po ps.length pc, ps, .slice none 0 0, []⟩])) := by
    refine wmuch_any _ _ _ (.inr ⟨w2.heap.size, 0, 1, rfl, ?_, by show (1 : Nat) ≤ _; decide, fun i d hd => ?_⟩)
    · simp
    · have BX := Blk.made w2 [.int .i64 0, .int .i64 0, .slice po ps.length pc, .slice none 0 0] 61
      have hi : i < 1 := (List.getElem?_eq_some_iff.1 hd).1
      obtain rfl : i = 0 := by omega
      obtain rfl : _ = d := Option.some.inj hd
      exact ⟨BX.cell (j := 0) rfl, BX.cell (j := 1) rfl, BX.cell (j := 2) rfl, BX.cell (j := 3) rfl, by show (-9223372036854775808 : Int) ≤ 0 ∧ (0 : Int) ≤ 9223372036854775807; decide, by show (-9223372036854775808 : Int) ≤ 0 ∧ (0 : Int) ≤ 9223372036854775807; decide, HPS.out _ (CW0.out.alloc _), HPB0.out, .inl ⟨rfl, _, _, rfl⟩, by show (0 : Nat) ≤ _; decide⟩
  go_wp2_with fail
  refine MU2.out.mono ?_
  rintro e w3 ⟨mb, rfl, hsm, q3, rfl⟩
  replace hsm := Lib.hid hsm
  clear MU2
  cases mb with
  | true =>
    go_wp2_with fail
    go_ret
    exact ⟨rfl, (CW0.out.alloc _).drewN q3⟩
  | false =>
  have HP5 : Hid (ps.length ≤ 5000) := by
    have := hsm.out rfl
    simp [wopW, WOpD.weight] at this
    show ps.length ≤ 5000
    omega
  clear hsm
  obtain ⟨w4, hw4⟩ : ∃ w4, w4 = (w2.alloc (.cells #[.int .i64 0, .int .i64 0, .slice po ps.length pc, .slice none 0 0] 61)).drewN q3 := ⟨_, rfl⟩
  have CW : Hid (Chg [] w w4) := by rw [hw4]; exact (CW0.out.alloc _).drewN q3
  rw [← hw4]
  clear hw4 CW0
  by_cases hin : 5 ≤ ring ∧ ring ≤ 2048
  case neg =>
    have BN := Lib.hid (begun_no ring hin w4)
    have K1 := Lib.hid (KN.out w4)
    clear KN HVS HW HP5 HPS HPB0
    by_cases h1 : ring < 5
    · clear hin
      go_wp2_with (first
        | (go_at_call 44; refine BN.out.mono ?_; rintro e w3 ⟨rfl, rfl⟩)
        | (go_at_call 14; refine K1.out.mono ?_; rintro e w3 ⟨rfl, C3⟩; clear K1 BN))
      go_ret
      exact ⟨rfl, CW.out.trans C3.out⟩
    · have h2 : 2048 < ring := by omega
      clear hin
      go_wp2_with (first
        | (go_at_call 44; refine BN.out.mono ?_; rintro e w3 ⟨rfl, rfl⟩)
        | (go_at_call 14; refine K1.out.mono ?_; rintro e w3 ⟨rfl, C3⟩; clear K1 BN))
      go_ret
      exact ⟨rfl, CW.out.trans C3.out⟩
  case pos =>
  obtain ⟨n, rfl⟩ : ∃ n : Nat, ring = n := ⟨ring.toNat, by omega⟩
  have n5 : 5 ≤ n := by omega
  have n2 : n ≤ 2048 := by omega
  have BG := Lib.hid (begun_ok (Side.nil (Chg.refl [] w4)) n5 n2)
  have BGF : Hid (∀ w' ts, Side w4 w' ts → Calls Tryz.prog 44 #[.int .i64 (n : Int)] w' (BegunW w4 n ts)) := fun w' ts h => begun_ok h n5 n2
  have S0 := Lib.hid (FSt.begin (es := es) n5 n2)
  clear hin hr
  obtain ⟨j0, ki, kz0, kz1, kz2⟩ := info_parts info_wpatch
  replace ki := Lib.hid ki
  replace kz0 := Lib.hid kz0
  replace kz1 := Lib.hid kz1
  replace kz2 := Lib.hid kz2
  go_wp2_with (first
    | (go_at_call 44; refine BG.out.mono ?_; rintro e w5 ⟨b, W, D, R, F, rfl, H5⟩; clear BG; have BG2 := Lib.hid (BGF.out _ _ H5.out); clear BGF)
    | (go_at_call 44; refine BG2.out.mono ?_; rintro e w6 ⟨c, V, D', R', F', rfl, H6⟩; clear BG2 H5; have K1 := Lib.hid (KN.out w6); clear KN)
    | (go_at_call 14; refine K1.out.mono ?_; rintro e w7 ⟨rfl, C7⟩; clear K1; have H7 := Lib.hid (H6.out.quiet C7.out).jswap; clear H6 C7)
    | (with_reducible refine wpList_make_full _ rfl _ _ 58 rfl w7.heap.size 105 j0 _ 3 Tryz.underlying58 ki.out kz0.out kz1.out .i64 .i64 (n : Int) (n : Int) n rfl rfl rfl rfl (by rw [kz2.out]; omega) (by unfold maxLen; omega) (Nat.le_refl _) ?_; intro w8 ow gr; rw [made_long] at ow; have C8 := Lib.hid ((Chg.refl [] w7).grown gr (fun k hk => by cases hk)); replace ow := Lib.hid ow; clear gr))
  obtain ⟨lv, hlv⟩ : ∃ lv : Value, lv = .slice (some ⟨w7.heap.size, 0, none⟩) n n := ⟨_, rfl⟩
  have H8 : Hid (RTwo w4 b W D R (Wl.bgJn n) (Wl.bgBay n) c V D' R' (Wl.bgJn n) (Wl.bgBay n) [listT lv (longL n)] w8) := by
    have h9 : OwnW 3 w8 0 105 lv ((longL n).map pvSlot) := ⟨pv_slots _, by
      rw [hlv, show ((longL n).map pvSlot).length = n by unfold longL; rw [List.length_map, List.length_replicate]]
      exact ownsRow_base ow.out (Nat.zero_le _)⟩
    have h10 := H7.out.add (b := listT lv (longL n)) C8.out h9 (fun k hk => by
      have hk' : k = w7.heap.size := by simpa [listT, wideT, hlv, Value.ownBlock] using hk
      rw [hk']
      exact Nat.le_refl _)
    exact ⟨_, _, _, _, h10.perm (by
      show ([_] ++ ([_, _, _, _, _, _, _, _, _, _] ++ [])).Perm ([_, _, _, _, _, _, _, _, _, _] ++ ([_] ++ []))
      rw [← List.append_assoc, ← List.append_assoc]
      exact List.Perm.append_right _ List.perm_append_comm)⟩
  have LONG : Hid (∀ w', (listT lv (longL n)).P w' → Pts w' lv ((longL n).map toPt)) := fun w' h => long_pts n2 h
  rw [← hlv]
  obtain ⟨lo, lc, hlo⟩ : ∃ lo lc, lv = .slice lo n lc := ⟨_, _, hlv⟩
  clear hlv H7 C8 ow ki kz0 kz1 kz2
  obtain ⟨LT, hLT⟩ : ∃ LT, LT = [listT lv (longL n)] := ⟨_, rfl⟩
  have LPT : Hid (∀ w' J y t, RTwo w4 b W D R J y c V D' R' J y (t :: LT) w' → Pts w' lv ((longL n).map toPt)) := fun w' J y t h => by
    rw [hLT] at h
    exact LONG.out _ h.rest.2.rest.1
  rw [← hLT] at H8
  clear LONG hLT
  subst hlo
  obtain ⟨N, hN⟩ : ∃ N, N = es.length := ⟨_, rfl⟩
  have HN := Lib.hid hN
  have HVN : Hid (∀ w', Chg [] w w' → WOps w' (.slice vo N vc) es) := fun w' c => by rw [hN]; exact HVS.out w' c
  have HNW : Hid (N ≤ 5000) := by rw [hN]; exact (wopW_le HW.out).1
  rw [← hN]
  clear HVS hN
  have hl0 : (0 : Int) ≤ N := Int.natCast_nonneg _
  have H0 : Hid (∃ y J, FSt es n 0 y J ∧ RTwo w4 b W D R J y c V D' R' J y LT w8) := ⟨_, _, S0.out, H8.out⟩
  clear S0 H8
  go_loopw [12] (fun i wr => ∃ j : Nat, j ≤ N ∧ i = .int .i64 j ∧ Hid (∃ y J, FSt es n j y J ∧ RTwo w4 b W D R J y c V D' R' J y LT wr)) (fun i _ => N - (intOf i).toNat)
  case atStart => exact ⟨0, Nat.zero_le _, rfl, H0⟩
  case round =>
    obtain ⟨j, hj, rfl, Hj⟩ := hrel
    clear H0
    have hj0 : (0 : Int) ≤ j := Int.natCast_nonneg _
    obtain ⟨y, J, ST, T0⟩ := Hj.out
    replace ST := Lib.hid ST
    replace T0 := Lib.hid T0
    clear Hj
    have FIT := Lib.hid (ST.out.fit (by have := HNW.out; omega))
    have LOW := Lib.hid (ST.out.low HW.out)
    by_cases hlt : j < N
    · have hj1 : (j : Int) < N := by omega
      obtain ⟨a, ha⟩ : ∃ a, es[j]? = some a := ⟨_, List.getElem?_eq_getElem (by have := HN.out; omega)⟩
      -- Counts, and what is free
      obtain ⟨cr, hcr⟩ : ∃ z : Int, z = (y.reads : Int) := ⟨_, rfl⟩
      obtain ⟨cw, hcw⟩ : ∃ z : Int, z = (y.writes : Int) := ⟨_, rfl⟩
      obtain ⟨cf, hcf⟩ : ∃ z : Int, z = (y.flushes : Int) := ⟨_, rfl⟩
      obtain ⟨S, hS⟩ : ∃ z : Int, z = (J.S : Int) := ⟨_, rfl⟩
      obtain ⟨U, hU⟩ : ∃ z : Int, z = (J.u : Int) := ⟨_, rfl⟩
      have CNF : Hid (∀ w' ts, RTwo w4 b W D R J y c V D' R' J y ts w' → Calls Tryz.prog 28 #[.pointer (some ⟨b, 0, none⟩)] w' fun e w'' => e = .returned (.agg #[.int .i64 cr, .int .i64 cw, .int .i64 cf]) ∧ Hid (Chg [] w' w'')) := fun w' ts h => by
        obtain ⟨cv, F, cv', F', H⟩ := h
        rw [hcr, hcw, hcf]
        exact bcounts_any b F y w' (H.get 0 rfl)
      have SZF : Hid (∀ w' ts, RTwo w4 b W D R J y c V D' R' J y ts w' → Calls Tryz.prog 36 #[.pointer (some ⟨W, 0, none⟩)] w' (Still w' (.int .i64 S))) := fun w' ts h => by
        obtain ⟨cv, F, cv', F', H⟩ := h
        rw [hS]
        exact wsize_any (H.get 2 rfl) (H.get 3 rfl) FIT.out.1.rg
      have USF : Hid (∀ w' ts, RTwo w4 b W D R J y c V D' R' J y ts w' → Calls Tryz.prog 35 #[.pointer (some ⟨W, 0, none⟩)] w' (Still w' (.int .i64 U))) := fun w' ts h => by
        obtain ⟨cv, F, cv', F', H⟩ := h
        rw [hU]
        exact wused_any (H.get 2 rfl) (H.get 3 rfl) FIT.out.1.rg
      have CN1 := Lib.hid (CNF.out _ _ T0.out)
      have SU : 0 ≤ U ∧ U ≤ S ∧ S ≤ 2048 := by have := FIT.out; omega
      obtain ⟨wa, wb⟩ := sc_wrap (z := S - U) (by omega) (by omega)
      have PL : (0 : Int) ≤ (ps.length : Int) ∧ (ps.length : Int) ≤ 5000 := by have := HP5.out; omega
      obtain ⟨wc, wd⟩ := sc_wrap (z := 2 * (ps.length : Int)) (by omega) (by omega)
      obtain ⟨we, wf⟩ := sc_wrap (z := 2 * (ps.length : Int) + 1) (by omega) (by omega)
      obtain ⟨E1, hE1⟩ : ∃ E1 : Int, (¬ S - U < 2 * (ps.length : Int) + 1) ∨ (E1 ≠ 0 ∧ Wl.logJ y J (scErr J.ep J.next ps) (ps.map pdOf) = ⟨E1, y, J⟩) := by
        by_cases q : S - U < 2 * (ps.length : Int) + 1
        · obtain ⟨e', h1, _, h2⟩ := ST.out.no ps (.inr (by have := FIT.out.1.used; omega))
          exact ⟨e', .inr ⟨h1, h2⟩⟩
        · exact ⟨0, .inl q⟩
      replace hE1 := Lib.hid hE1
      obtain ⟨E2, e20, hE2⟩ : ∃ E2 : Int, E2 ≠ 0 ∧ Wl.logJ y J (scErr J.ep J.next ((longL n).map toPt)) (((longL n).map toPt).map pdOf) = ⟨E2, y, J⟩ := by
        obtain ⟨e', h1, _, h2⟩ := ST.out.no ((longL n).map toPt) (.inl (long_err n5))
        exact ⟨e', h1, h2⟩
      have hE3 : Hid (Wl.logJ y J (scErr J.ep J.next []) (([] : List PtD).map pdOf) = ⟨1, y, J⟩) := by
        obtain ⟨e', h1, h3, h2⟩ := ST.out.no [] (.inl (by rw [nil_err]; decide))
        obtain rfl : e' = 1 := h3 (by rw [nil_err]; decide)
        exact h2
      replace hE2 := Lib.hid hE2
      have I0 : Hid (I64 J.slot) := by rw [FIT.out.2.1]; exact ⟨by decide, by decide⟩
      replace hcr := Lib.hid hcr
      replace hcw := Lib.hid hcw
      replace hcf := Lib.hid hcf
      replace hS := Lib.hid hS
      replace hU := Lib.hid hU
      go_upto_region 15 with (first
        | (go_at_call 28; refine CN1.out.mono ?_; rintro e w9 ⟨rfl, C9⟩; have T1 := Lib.hid ((rtwo_quiet T0.out C9.out).behind 73 [.int .i64 cr, .int .i64 cw, .int .i64 cf]); have T1D : Hid (∀ m, RTwo w4 b W D R J y c V D' R' J y (blkT w9.heap.size 73 [.int .i64 cr, .int .i64 cw, .int .i64 cf] :: LT) ((w9.alloc (.cells #[.int .i64 cr, .int .i64 cw, .int .i64 cf] 73)).drewN m)) := fun m => rtwo_quiet T1.out ((Chg.refl [] _).drewN m); have SZ1 := Lib.hid (SZF.out _ _ T1.out); have US1 := Lib.hid (fun m => USF.out _ _ (T1D.out m)); clear CN1 C9)
        | (go_at_call 36; refine SZ1.out.mono ?_; rintro e wu ⟨rfl, qu, rfl⟩; clear SZ1)
        | (go_at_call 35; refine (US1.out _).mono ?_; rintro e wu ⟨rfl, qu2, rfl⟩; clear US1))
      have KB : Hid (∀ w', RTwo w4 b W D R J y c V D' R' J y (blkT w9.heap.size 73 [.int .i64 cr, .int .i64 cw, .int .i64 cf] :: LT) w' → (w'.cell? ⟨w9.heap.size, 0, none⟩ = some (.int .i64 cr) ∧ w'.cell? ⟨w9.heap.size, 1, none⟩ = some (.int .i64 cw) ∧ w'.cell? ⟨w9.heap.size, 2, none⟩ = some (.int .i64 cf))) := fun w' h => by
        have B9 : Blk w' w9.heap.size 73 [.int .i64 cr, .int .i64 cw, .int .i64 cf] := h.rest.1
        exact ⟨B9.cell (j := 0) rfl, B9.cell (j := 1) rfl, B9.cell (j := 2) rfl⟩
      obtain ⟨K, hK⟩ : ∃ K : World → Prop, K = fun w' => (w'.cell? ⟨w9.heap.size, 0, none⟩ = some (.int .i64 cr) ∧ w'.cell? ⟨w9.heap.size, 1, none⟩ = some (.int .i64 cw) ∧ w'.cell? ⟨w9.heap.size, 2, none⟩ = some (.int .i64 cf)) := ⟨_, rfl⟩
      have KS : Hid (∀ w', K w' → (w'.cell? ⟨w9.heap.size, 0, none⟩ = some (.int .i64 cr) ∧ w'.cell? ⟨w9.heap.size, 1, none⟩ = some (.int .i64 cw) ∧ w'.cell? ⟨w9.heap.size, 2, none⟩ = some (.int .i64 cf))) := fun w' h => by rw [hK] at h; exact h
      obtain ⟨TS, hTS⟩ : ∃ TS : World → Prop, TS = RTwo w4 b W D R J y c V D' R' J y (blkT w9.heap.size 73 [.int .i64 cr, .int .i64 cw, .int .i64 cf] :: LT) := ⟨_, rfl⟩
      have KT : ∀ w', RTwo w4 b W D R J y c V D' R' J y (blkT w9.heap.size 73 [.int .i64 cr, .int .i64 cw, .int .i64 cf] :: LT) w' → K w' := fun w' h => by rw [hK]; exact KB.out w' h
      have LG1 : Hid (∀ w', TS w' → S - U < 2 * (ps.length : Int) + 1 → Calls Tryz.prog 30 #[.pointer (some ⟨W, 0, none⟩), .slice po ps.length pc] w' (RGive TS K (.int .u16 E1))) := fun w' h q => by
        rw [hTS] at h ⊢
        rcases hE1.out with q1 | q1
        · exact absurd q (by omega)
        · exact rtwo_log KT h FIT.out.1 I0.out (LOW.out.mono (by decide)) _ ps (HPS.out _ (CW.out.trans h.chg)) HPB0.out q1.2
      have LG2 : Hid (∀ w', TS w' → Calls Tryz.prog 30 #[.pointer (some ⟨W, 0, none⟩), .slice lo n lc] w' (RGive TS K (.int .u16 E2))) := fun w' h => by
        rw [hTS] at h ⊢
        exact rtwo_log KT h FIT.out.1 I0.out (LOW.out.mono (by decide)) _ _ (LPT.out _ _ _ _ h) (long_by n) hE2.out
      have LG3 : Hid (∀ w', TS w' → Calls Tryz.prog 30 #[.pointer (some ⟨W, 0, none⟩), .slice none 0 0] w' (RGive TS K (.int .u16 1))) := fun w' h => by
        rw [hTS] at h ⊢
        exact rtwo_log KT h FIT.out.1 I0.out (LOW.out.mono (by decide)) _ [] (.inl ⟨rfl, _, _, rfl⟩) (fun p hp => by cases hp) hE3.out
      have CN2 : Hid (∀ w', TS w' → Calls Tryz.prog 28 #[.pointer (some ⟨b, 0, none⟩)] w' (RGive TS K (.agg #[.int .i64 cr, .int .i64 cw, .int .i64 cf]))) := fun w' h => by
        rw [hTS] at h ⊢
        have m := rtwo_counts KT h
        rw [← hcr.out, ← hcw.out, ← hcf.out] at m
        exact m
      have E1z : S - U < 2 * (ps.length : Int) + 1 → E1 ≠ 0 := fun q => by
        rcases hE1.out with q1 | q1
        · exact absurd q (by omega)
        · exact q1.1
      have E2b : (E2 == 0) = false := by simpa using e20
      have TD : Hid (∀ m, TS ((w9.alloc (.cells #[.int .i64 cr, .int .i64 cw, .int .i64 cf] 73)).drewN m)) := fun m => by rw [hTS]; exact T1D.out m
      have TDD : Hid (∀ m, TS ((w9.alloc (.cells #[.int .i64 cr, .int .i64 cw, .int .i64 cf] 73)).drewN m).drew) := fun m => by rw [hTS]; exact rtwo_quiet (T1D.out m) ((Chg.refl [] _).drewN 1)
      have KDD : Hid (∀ m, K ((w9.alloc (.cells #[.int .i64 cr, .int .i64 cw, .int .i64 cf] 73)).drewN m).drew) := fun m => KT _ (rtwo_quiet (T1D.out m) ((Chg.refl [] _).drewN 1))
      have KD : Hid (∀ m, K ((w9.alloc (.cells #[.int .i64 cr, .int .i64 cw, .int .i64 cf] 73)).drewN m)) := fun m => KT _ (T1D.out m)
      have TSR : Hid (∀ w', TS w' → RTwo w4 b W D R J y c V D' R' J y LT w') := fun w' h => by rw [hTS] at h; exact h.rest.2
      have NQ := neq_cnt3 cr cw cf
      clear hTS T1 T1D KT KB hE1 hE2 hE3 CNF SZF USF hcr hcw hcf hS hU e20
      go_cut [94] from 66 to 94 (fun s94 wx => s94 = .bool false ∧ Hid (TS wx))
      case first =>
        clear HVN HN HPS HPB0 ST FIT LOW CW LPT TSR T0 I0 HW HP5 HNW hK SU PL
        by_cases hfree : S - U < 2 * (ps.length : Int) + 1
        · have e10 : (E1 == 0) = false := by simpa using E1z hfree
          have LG1' : Hid (∀ w', TS w' → Calls Tryz.prog 30 #[.pointer (some ⟨W, 0, none⟩), .slice po ps.length pc] w' (RGive TS K (.int .u16 E1))) := fun w' h => LG1.out w' h hfree
          clear LG1 E1z
          go_region_held3 (fun w' : World => w'.cell? ⟨w9.heap.size, 0, none⟩ = some (.int .i64 cr) ∧ w'.cell? ⟨w9.heap.size, 1, none⟩ = some (.int .i64 cw) ∧ w'.cell? ⟨w9.heap.size, 2, none⟩ = some (.int .i64 cf)) (first | exact KS.out _ K3.out | exact KS.out _ K2.out | exact KS.out _ K1.out | exact KS.out _ (KDD.out _) | exact KS.out _ (KD.out _)) (first
            | (go_at_call 28; refine (CN2.out _ T3.out).mono ?_; rintro e x4 ⟨rfl, K3, T4⟩)
            | (go_at_call 30; refine (LG3.out _ T2.out).mono ?_; rintro e x3 ⟨rfl, K3, T3⟩)
            | (go_at_call 30; refine (LG2.out _ T1.out).mono ?_; rintro e x2 ⟨rfl, K2, T2⟩)
            | (go_at_call 30; refine (LG1'.out _ (by first | exact TDD.out _ | exact TD.out _)).mono ?_; rintro e x1 ⟨rfl, K1, T1⟩))
          all_goals go_wp2_with fail
          all_goals go_meet
          all_goals exact ⟨rfl, T4⟩
        · have hfr : decide (S - U < 2 * (ps.length : Int) + 1) = false := decide_eq_false hfree
          clear hfree LG1 E1z
          refine wp_region_held_drew (S := (fun w' : World => w'.cell? ⟨w9.heap.size, 0, none⟩ = some (.int .i64 cr) ∧ w'.cell? ⟨w9.heap.size, 1, none⟩ = some (.int .i64 cw) ∧ w'.cell? ⟨w9.heap.size, 2, none⟩ = some (.int .i64 cf))) (by kernel_rfl) (KS.out _ (KDD.out _)) (fun hHeld => ?_)
          refine wpAnyH_take (i := 0) (oi := _) (v := ?_) rfl (by kernel_rfl) (by kernel_rfl) (by kernel_rfl) (fun _ _ _ h => h) (Or.inl ⟨by rfl, ?_⟩) (by assumption) ?_
          rotate_left
          · (intro w0' hSw; (try dsimp only at hSw); go_simp; try with_reducible rfl)
          change wpAnyH _ _ _ _ _ _ _ (Act.put _ (some 66) _) _
          try simp only [Act.put, List.setIfInBounds_toArray, List.set_cons_zero, List.set_cons_succ]
          refine wpAnyH_take (i := 1) (oi := _) (v := ?_) rfl (by kernel_rfl) (by kernel_rfl) (by kernel_rfl) (fun _ _ _ h => h) (Or.inl ⟨by rfl, ?_⟩) (by assumption) ?_
          rotate_left
          · (intro w0' hSw; (try dsimp only at hSw); go_simp; try with_reducible rfl)
          change wpAnyH _ _ _ _ _ _ _ (Act.put _ (some 67) _) _
          try simp only [Act.put, List.setIfInBounds_toArray, List.set_cons_zero, List.set_cons_succ]
          refine wpAnyH_take (i := 2) (oi := _) (v := ?_) rfl (by kernel_rfl) (by kernel_rfl) (by kernel_rfl) (fun _ _ _ h => h) (Or.inl ⟨by rfl, ?_⟩) (by assumption) ?_
          rotate_left
          · (intro w0' hSw; (try dsimp only at hSw); go_simp; try with_reducible rfl)
          change wpAnyH _ _ _ _ _ _ _ (Act.put _ (some 68) _) _
          try simp only [Act.put, List.setIfInBounds_toArray, List.set_cons_zero, List.set_cons_succ]
          refine wpAnyH_take (i := 3) (oi := _) (v := ?_) rfl (by kernel_rfl) (by kernel_rfl) (by kernel_rfl) (fun _ _ _ h => h) (Or.inl ⟨by rfl, ?_⟩) (by assumption) ?_
          rotate_left
          · (intro w0' hSw; (try dsimp only at hSw); go_simp; try with_reducible rfl)
          change wpAnyH _ _ _ _ _ _ _ (Act.put _ (some 69) _) _
          try simp only [Act.put, List.setIfInBounds_toArray, List.set_cons_zero, List.set_cons_succ]
          refine wpAnyH_take (i := 4) (oi := _) (v := ?_) rfl (by kernel_rfl) (by kernel_rfl) (by kernel_rfl) (fun _ _ _ h => h) (Or.inl ⟨by rfl, ?_⟩) (by assumption) ?_
          rotate_left
          · (intro w0' hSw; (try dsimp only at hSw); go_simp; try with_reducible rfl)
          change wpAnyH _ _ _ _ _ _ _ (Act.put _ (some 70) _) _
          try simp only [Act.put, List.setIfInBounds_toArray, List.set_cons_zero, List.set_cons_succ]
          refine wpAnyH_take (i := 5) (oi := _) (v := ?_) rfl (by kernel_rfl) (by kernel_rfl) (by kernel_rfl) (fun _ _ _ h => h) (Or.inl ⟨by rfl, ?_⟩) (by assumption) ?_
          rotate_left
          · (intro w0' hSw; (try dsimp only at hSw); go_simp; try with_reducible rfl)
          change wpAnyH _ _ _ _ _ _ _ (Act.put _ (some 71) _) _
          try simp only [Act.put, List.setIfInBounds_toArray, List.set_cons_zero, List.set_cons_succ]
          refine wpAnyH_take (i := 6) (oi := _) (v := ?_) rfl (by kernel_rfl) (by kernel_rfl) (by kernel_rfl) (fun _ _ _ h => h) (Or.inl ⟨by rfl, ?_⟩) (by assumption) ?_
          rotate_left
          · (intro w0' hSw; (try dsimp only at hSw); go_simp; try with_reducible rfl)
          change wpAnyH _ _ _ _ _ _ _ (Act.put _ (some 72) _) _
          try simp only [Act.put, List.setIfInBounds_toArray, List.set_cons_zero, List.set_cons_succ]
          refine wpAnyH_take (i := 7) (oi := _) (v := undef) rfl (by kernel_rfl) (by kernel_rfl) (by kernel_rfl) (fun _ _ _ h => h) (Or.inr ⟨by rfl, rfl⟩) (by assumption) ?_
          change wpAnyH _ _ _ _ _ _ _ (Act.put _ (some 73) _) _
          try simp only [Act.put, List.setIfInBounds_toArray, List.set_cons_zero, List.set_cons_succ]
          refine wpAnyH_take (i := 8) (oi := _) (v := undef) rfl (by kernel_rfl) (by kernel_rfl) (by kernel_rfl) (fun _ _ _ h => h) (Or.inr ⟨by rfl, rfl⟩) (by assumption) ?_
          change wpAnyH _ _ _ _ _ _ _ (Act.put _ (some 74) _) _
          try simp only [Act.put, List.setIfInBounds_toArray, List.set_cons_zero, List.set_cons_succ]
          refine wpAnyH_ready (rs := [9]) (by kernel_rfl) (by simp) ?_
          refine AllReadyH.cons (o := _) rfl (fun K' hK' => ?_) AllReadyH.nil
          rw [if_neg (by exact Bool.false_ne_true)]
          refine hK'.out _ _ (by assumption) (fun hHeld => ?_)
          clear hK' K'
          change wpAnyH _ _ _ _ _ _ _ (Act.put _ (some 75) _) _
          try simp only [Act.put, List.setIfInBounds_toArray, List.set_cons_zero, List.set_cons_succ]
          refine wpAnyH_take (i := 10) (oi := _) (v := undef) rfl (by kernel_rfl) (by kernel_rfl) (by kernel_rfl) (fun _ _ _ h => h) (Or.inr ⟨by rfl, rfl⟩) (by assumption) ?_
          change wpAnyH _ _ _ _ _ _ _ (Act.put _ (some 76) _) _
          try simp only [Act.put, List.setIfInBounds_toArray, List.set_cons_zero, List.set_cons_succ]
          refine wpAnyH_take (i := 11) (oi := _) (v := ?_) rfl (by kernel_rfl) (by kernel_rfl) (by kernel_rfl) (fun _ _ _ h => h) (Or.inl ⟨by rfl, ?_⟩) (by assumption) ?_
          rotate_left
          · (intro w0' hSw; (try dsimp only at hSw); go_simp; try with_reducible rfl)
          change wpAnyH _ _ _ _ _ _ _ (Act.put _ (some 77) _) _
          try simp only [Act.put, List.setIfInBounds_toArray, List.set_cons_zero, List.set_cons_succ]
          refine wpAnyH_take (i := 12) (oi := _) (v := ?_) rfl (by kernel_rfl) (by kernel_rfl) (by kernel_rfl) (fun _ _ _ h => h) (Or.inl ⟨by rfl, ?_⟩) (by assumption) ?_
          rotate_left
          · (intro w0' hSw; (try dsimp only at hSw); go_simp; try with_reducible rfl)
          change wpAnyH _ _ _ _ _ _ _ (Act.put _ (some 78) _) _
          try simp only [Act.put, List.setIfInBounds_toArray, List.set_cons_zero, List.set_cons_succ]
          refine wpAnyH_take (i := 13) (oi := _) (v := ?_) rfl (by kernel_rfl) (by kernel_rfl) (by kernel_rfl) (fun _ _ _ h => h) (Or.inl ⟨by rfl, ?_⟩) (by assumption) ?_
          rotate_left
          · (intro w0' hSw; (try dsimp only at hSw); go_simp; try with_reducible rfl)
          change wpAnyH _ _ _ _ _ _ _ (Act.put _ (some 79) _) _
          try simp only [Act.put, List.setIfInBounds_toArray, List.set_cons_zero, List.set_cons_succ]
          refine wpAnyH_take (i := 14) (oi := _) (v := ?_) rfl (by kernel_rfl) (by kernel_rfl) (by kernel_rfl) (fun _ _ _ h => h) (Or.inl ⟨by rfl, ?_⟩) (by assumption) ?_
          rotate_left
          · (intro w0' hSw; (try dsimp only at hSw); go_simp; try with_reducible rfl)
          change wpAnyH _ _ _ _ _ _ _ (Act.put _ (some 80) _) _
          try simp only [Act.put, List.setIfInBounds_toArray, List.set_cons_zero, List.set_cons_succ]
          refine wpAnyH_ready (rs := [15]) (by kernel_rfl) (by simp) ?_
          refine AllReadyH.cons (o := _) rfl (fun K' hK' => ?_) AllReadyH.nil
          go_simp
          (go_at_call 30; refine (LG2.out _ (by first | exact TDD.out _ | exact TD.out _)).mono ?_; rintro e x2 ⟨rfl, K2, T2⟩)
          refine hK'.out _ _ (KS.out _ K2.out) (fun hHeld => ?_)
          clear hK' K'
          try simp only [Act.put, List.setIfInBounds_toArray, List.set_cons_zero, List.set_cons_succ]
          refine wpAnyH_take (i := 16) (oi := _) (v := ?_) rfl (by kernel_rfl) (by kernel_rfl) (by kernel_rfl) (fun _ _ _ h => h) (Or.inl ⟨by rfl, ?_⟩) (by assumption) ?_
          rotate_left
          · (intro w0' hSw; (try dsimp only at hSw); go_simp; try with_reducible rfl)
          change wpAnyH _ _ _ _ _ _ _ (Act.put _ (some 82) _) _
          try simp only [Act.put, List.setIfInBounds_toArray, List.set_cons_zero, List.set_cons_succ]
          refine wpAnyH_take (i := 17) (oi := _) (v := ?_) rfl (by kernel_rfl) (by kernel_rfl) (by kernel_rfl) (fun _ _ _ h => h) (Or.inl ⟨by rfl, ?_⟩) (by assumption) ?_
          rotate_left
          · (intro w0' hSw; (try dsimp only at hSw); go_simp; try with_reducible rfl)
          change wpAnyH _ _ _ _ _ _ _ (Act.put _ (some 83) _) _
          try simp only [Act.put, List.setIfInBounds_toArray, List.set_cons_zero, List.set_cons_succ]
          refine wpAnyH_take (i := 18) (oi := _) (v := ?_) rfl (by kernel_rfl) (by kernel_rfl) (by kernel_rfl) (fun _ _ _ h => h) (Or.inl ⟨by rfl, ?_⟩) (by assumption) ?_
          rotate_left
          · (intro w0' hSw; (try dsimp only at hSw); go_simp; try with_reducible rfl)
          change wpAnyH _ _ _ _ _ _ _ (Act.put _ (some 84) _) _
          try simp only [Act.put, List.setIfInBounds_toArray, List.set_cons_zero, List.set_cons_succ]
          refine wpAnyH_take (i := 19) (oi := _) (v := ?_) rfl (by kernel_rfl) (by kernel_rfl) (by kernel_rfl) (fun _ _ _ h => h) (Or.inl ⟨by rfl, ?_⟩) (by assumption) ?_
          rotate_left
          · (intro w0' hSw; (try dsimp only at hSw); go_simp; try with_reducible rfl)
          change wpAnyH _ _ _ _ _ _ _ (Act.put _ (some 85) _) _
          try simp only [Act.put, List.setIfInBounds_toArray, List.set_cons_zero, List.set_cons_succ]
          refine wpAnyH_ready (rs := [20]) (by kernel_rfl) (by simp) ?_
          refine AllReadyH.cons (o := _) rfl (fun K' hK' => ?_) AllReadyH.nil
          go_simp
          (go_at_call 30; refine (LG3.out _ T2.out).mono ?_; rintro e x3 ⟨rfl, K3, T3⟩)
          refine hK'.out _ _ (KS.out _ K3.out) (fun hHeld => ?_)
          clear hK' K'
          try simp only [Act.put, List.setIfInBounds_toArray, List.set_cons_zero, List.set_cons_succ]
          refine wpAnyH_take (i := 21) (oi := _) (v := ?_) rfl (by kernel_rfl) (by kernel_rfl) (by kernel_rfl) (fun _ _ _ h => h) (Or.inl ⟨by rfl, ?_⟩) (by assumption) ?_
          rotate_left
          · (intro w0' hSw; (try dsimp only at hSw); go_simp; try with_reducible rfl)
          change wpAnyH _ _ _ _ _ _ _ (Act.put _ (some 87) _) _
          try simp only [Act.put, List.setIfInBounds_toArray, List.set_cons_zero, List.set_cons_succ]
          refine wpAnyH_take (i := 22) (oi := _) (v := ?_) rfl (by kernel_rfl) (by kernel_rfl) (by kernel_rfl) (fun _ _ _ h => h) (Or.inl ⟨by rfl, ?_⟩) (by assumption) ?_
          rotate_left
          · (intro w0' hSw; (try dsimp only at hSw); go_simp; try with_reducible rfl)
          change wpAnyH _ _ _ _ _ _ _ (Act.put _ (some 88) _) _
          try simp only [Act.put, List.setIfInBounds_toArray, List.set_cons_zero, List.set_cons_succ]
          refine wpAnyH_take (i := 23) (oi := _) (v := ?_) rfl (by kernel_rfl) (by kernel_rfl) (by kernel_rfl) (fun _ _ _ h => h) (Or.inl ⟨by rfl, ?_⟩) (by assumption) ?_
          rotate_left
          · (intro w0' hSw; (try dsimp only at hSw); go_simp; try with_reducible rfl)
          change wpAnyH _ _ _ _ _ _ _ (Act.put _ (some 89) _) _
          try simp only [Act.put, List.setIfInBounds_toArray, List.set_cons_zero, List.set_cons_succ]
          refine wpAnyH_take (i := 24) (oi := _) (v := ?_) rfl (by kernel_rfl) (by kernel_rfl) (by kernel_rfl) (fun _ _ _ h => h) (Or.inl ⟨by rfl, ?_⟩) (by assumption) ?_
          rotate_left
          · (intro w0' hSw; (try dsimp only at hSw); go_simp; try with_reducible rfl)
          change wpAnyH _ _ _ _ _ _ _ (Act.put _ (some 90) _) _
          try simp only [Act.put, List.setIfInBounds_toArray, List.set_cons_zero, List.set_cons_succ]
          refine wpAnyH_take (i := 26) (oi := _) (v := ?_) rfl (by kernel_rfl) (by kernel_rfl) (by kernel_rfl) (fun _ _ _ h => h) (Or.inl ⟨by rfl, ?_⟩) (by assumption) ?_
          rotate_left
          · (intro w0' hSw; (try dsimp only at hSw); go_simp; try with_reducible rfl)
          change wpAnyH _ _ _ _ _ _ _ (Act.put _ (some 92) _) _
          try simp only [Act.put, List.setIfInBounds_toArray, List.set_cons_zero, List.set_cons_succ]
          refine wpAnyH_ready (rs := [25]) (by kernel_rfl) (by simp) ?_
          refine AllReadyH.cons (o := _) rfl (fun K' hK' => ?_) AllReadyH.nil
          go_simp
          (go_at_call 28; refine (CN2.out _ T3.out).mono ?_; rintro e x4 ⟨rfl, K4, T4⟩)
          refine hK'.out _ _ (KS.out _ K4.out) (fun hHeld => ?_)
          clear hK' K'
          try simp only [Act.put, List.setIfInBounds_toArray, List.set_cons_zero, List.set_cons_succ]
          refine wpAnyH_take (i := 27) (oi := _) (v := ?_) rfl (by kernel_rfl) (by kernel_rfl) (by kernel_rfl) (fun _ _ _ h => h) (Or.inl ⟨by rfl, ?_⟩) (by assumption) ?_
          rotate_left
          · (intro w0' hSw; (try dsimp only at hSw); go_simp; try with_reducible rfl)
          change wpAnyH _ _ _ _ _ _ _ (Act.put _ (some 93) _) _
          try simp only [Act.put, List.setIfInBounds_toArray, List.set_cons_zero, List.set_cons_succ]
          refine wpAnyH_take (i := 28) (oi := _) (v := ?_) rfl (by kernel_rfl) (by kernel_rfl) (by kernel_rfl) (fun _ _ _ h => h) (Or.inl ⟨by rfl, ?_⟩) (by assumption) ?_
          rotate_left
          · (intro w0' hSw; (try dsimp only at hSw); go_simp; try with_reducible rfl)
          change wpAnyH _ _ _ _ _ _ _ (Act.put _ (some 94) _) _
          try simp only [Act.put, List.setIfInBounds_toArray, List.set_cons_zero, List.set_cons_succ]
          refine wpAnyH_done (by kernel_rfl) ?_ _
          go_wp2_with fail
          go_meet
          exact ⟨rfl, T4⟩
      case rest =>
        obtain ⟨rfl, TX⟩ := hcut
        have T2 : Hid (RTwo w4 b W D R J y c V D' R' J y LT wc) := TSR.out _ TX.out
        clear T0 TX TSR TS LG1 LG2 LG3 CN2 TDD TD KDD KD KS hK K NQ E1z E2b LPT HPS HPB0 wa wb SU PL
        obtain ⟨bl, o, rfl, hbl, RI⟩ := (HVN.out _ (CW.out.trans T2.out.chg)).at ha
        have RIF : Hid (∀ w', Chg [] w w' → WOpIn w' bl (o + j * 4) a) := fun w' c => by
          obtain ⟨bl2, o2, e2, _, r⟩ := (HVN.out _ c).at ha
          obtain ⟨rfl, rfl⟩ : bl = bl2 ∧ o = o2 := by simpa using e2
          exact r
        obtain ⟨x2, y2, e2⟩ := RI.s2.slice
        obtain ⟨x3, y3, e3⟩ := RI.s3.slice
        rw [List.length_map] at e3
        have HPB : Hid (∀ p ∈ a.pts, By p.d ∧ Cap p.v) := fun p hp => ⟨(RI.y2 p hp).1, (RI.y2 p hp).2⟩
        have S3 := Lib.hid (ST.out.call ha (fun p hp => (HPB.out p hp).1))
        have FIT3 := Lib.hid (S3.out.fit (by have := HNW.out; omega))
        have LOWB := Lib.hid (LOW.out.mono (show 20000 ≤ 999990000 by decide))
        obtain ⟨K, hK⟩ : ∃ K : World → Prop, K = fun w' => (w'.cell? ⟨bl, o + j * 4, none⟩ = some (.int .i64 a.kind) ∧ w'.cell? ⟨bl, o + j * 4 + 1, none⟩ = some (.int .i64 a.num) ∧ w'.cell? ⟨bl, o + j * 4 + 2, none⟩ = some (.slice x2 a.pts.length y2) ∧ w'.cell? ⟨bl, o + j * 4 + 3, none⟩ = some (.slice x3 a.keep.length y3)) := ⟨_, rfl⟩
        have KS : Hid (∀ w', K w' → (w'.cell? ⟨bl, o + j * 4, none⟩ = some (.int .i64 a.kind) ∧ w'.cell? ⟨bl, o + j * 4 + 1, none⟩ = some (.int .i64 a.num) ∧ w'.cell? ⟨bl, o + j * 4 + 2, none⟩ = some (.slice x2 a.pts.length y2) ∧ w'.cell? ⟨bl, o + j * 4 + 3, none⟩ = some (.slice x3 a.keep.length y3))) := fun w' h => by rw [hK] at h; exact h
        have KC : ∀ w', Chg [] w4 w' → K w' := fun w' c => by
          have r := RIF.out w' (CW.out.trans c)
          rw [hK]
          exact ⟨r.c0, r.c1, by rw [← e2]; exact r.c2, by rw [← e3]; exact r.c3⟩
        obtain ⟨OB, hOB⟩ : ∃ OB, OB = Wl.callJ y J a := ⟨_, rfl⟩
        obtain ⟨TA, hTA⟩ : ∃ TA : World → Prop, TA = RTwo w4 b W D R J y c V D' R' J y LT := ⟨_, rfl⟩
        obtain ⟨TB, hTB⟩ : ∃ TB : World → Prop, TB = RTwo w4 b W D R OB.jn OB.bay c V D' R' J y LT := ⟨_, rfl⟩
        obtain ⟨TC, hTC⟩ : ∃ TC : World → Prop, TC = RTwo w4 b W D R OB.jn OB.bay c V D' R' OB.jn OB.bay LT := ⟨_, rfl⟩
        rw [← hOB] at S3 FIT3
        have CCA : Hid (∀ w', TA w' → Calls Tryz.prog 38 #[.pointer (some ⟨W, 0, none⟩), .agg #[.int .i64 a.kind, .int .i64 a.num, .slice x2 a.pts.length y2, .slice x3 a.keep.length y3]] w' (RGive TB K (.int .u16 OB.err))) := fun w' h => by
          rw [hTA] at h
          have m := rtwo_call (K := K) a (fun w'' h2 => KC _ h2.chg) h FIT.out.1 I0.out LOWB.out (RIF.out _ (CW.out.trans h.chg)).s2 HPB.out ⟨_, _, _, e3⟩
          rw [e2, e3, ← hOB, ← hTB] at m
          exact m
        have CCB : Hid (∀ w', TB w' → Calls Tryz.prog 38 #[.pointer (some ⟨V, 0, none⟩), .agg #[.int .i64 a.kind, .int .i64 a.num, .slice x2 a.pts.length y2, .slice x3 a.keep.length y3]] w' (RGive TC K (.int .u16 OB.err))) := fun w' h => by
          rw [hTB] at h
          have m := rtwo_call (K := K) a (fun w'' h2 => KC _ h2.chg) h.swap FIT.out.1 I0.out LOWB.out (RIF.out _ (CW.out.trans h.chg)).s2 HPB.out ⟨_, _, _, e3⟩
          rw [e2, e3, ← hOB] at m
          refine m.mono ?_
          rintro e w'' ⟨h1, h2, h3⟩
          rw [hTC]
          exact ⟨h1, h2, h3.out.swap⟩
        obtain ⟨u, hu⟩ : ∃ u : Int, u = (OB.jn.u : Int) := ⟨_, rfl⟩
        obtain ⟨x, hx⟩ : ∃ x : Int, x = (OB.jn.next : Int) := ⟨_, rfl⟩
        obtain ⟨sr, hsr⟩ : ∃ sr : Bool, sr = OB.jn.sure := ⟨_, rfl⟩
        obtain ⟨cr, hcr⟩ : ∃ z : Int, z = (OB.bay.reads : Int) := ⟨_, rfl⟩
        obtain ⟨cw, hcw⟩ : ∃ z : Int, z = (OB.bay.writes : Int) := ⟨_, rfl⟩
        obtain ⟨cf, hcf⟩ : ∃ z : Int, z = (OB.bay.flushes : Int) := ⟨_, rfl⟩
        have ASK : Hid (∀ w', TC w' →
            Calls Tryz.prog 35 #[.pointer (some ⟨W, 0, none⟩)] w' (RGive TC K (.int .i64 u)) ∧ Calls Tryz.prog 35 #[.pointer (some ⟨V, 0, none⟩)] w' (RGive TC K (.int .i64 u)) ∧
            Calls Tryz.prog 43 #[.pointer (some ⟨W, 0, none⟩)] w' (RGive TC K (.int .u64 x)) ∧ Calls Tryz.prog 43 #[.pointer (some ⟨V, 0, none⟩)] w' (RGive TC K (.int .u64 x)) ∧
            Calls Tryz.prog 29 #[.pointer (some ⟨W, 0, none⟩)] w' (RGive TC K (.bool sr)) ∧ Calls Tryz.prog 29 #[.pointer (some ⟨V, 0, none⟩)] w' (RGive TC K (.bool sr)) ∧
            Calls Tryz.prog 28 #[.pointer (some ⟨b, 0, none⟩)] w' (RGive TC K (.agg #[.int .i64 cr, .int .i64 cw, .int .i64 cf])) ∧ Calls Tryz.prog 28 #[.pointer (some ⟨c, 0, none⟩)] w' (RGive TC K (.agg #[.int .i64 cr, .int .i64 cw, .int .i64 cf]))) := fun w' h => by
          rw [hTC] at h ⊢
          have kc : ∀ w'', RTwo w4 b W D R OB.jn OB.bay c V D' R' OB.jn OB.bay LT w'' → K w'' := fun w'' h2 => KC _ h2.chg
          have kd : ∀ w'', RTwo w4 c V D' R' OB.jn OB.bay b W D R OB.jn OB.bay LT w'' → K w'' := fun w'' h2 => KC _ h2.chg
          have sw : ∀ {v : Value} {e : Ending} {w'' : World}, RGive (RTwo w4 c V D' R' OB.jn OB.bay b W D R OB.jn OB.bay LT) K v e w'' → RGive (RTwo w4 b W D R OB.jn OB.bay c V D' R' OB.jn OB.bay LT) K v e w'' := fun ⟨h1, h2, h3⟩ => ⟨h1, h2, h3.out.swap⟩
          rw [hu, hx, hsr, hcr, hcw, hcf]
          exact ⟨rtwo_used kc h FIT3.out.1, (rtwo_used kd h.swap FIT3.out.1).mono fun _ _ m => sw m, rtwo_next kc h, (rtwo_next kd h.swap).mono fun _ _ m => sw m, rtwo_sure kc h, (rtwo_sure kd h.swap).mono fun _ _ m => sw m, rtwo_counts kc h, (rtwo_counts kd h.swap).mono fun _ _ m => sw m⟩
        have TA1 : Hid (TA wc.drew) := by rw [hTA]; exact rtwo_quiet T2.out ((Chg.refl [] _).drewN 1)
        have KA1 : Hid (K wc.drew) := KC _ (T2.out.chg.trans ((Chg.refl [] _).drewN 1))
        have END : Hid (∀ w', TC w' → ∃ y J, FSt es n (j + 1) y J ∧ RTwo w4 b W D R J y c V D' R' J y LT w') := fun w' h => by
          rw [hTC] at h
          exact ⟨_, _, S3.out, h⟩
        have MEAS : Hid (N - (intOf (.int .i64 ((j : Int) + 1))).toNat < N - (intOf (.int .i64 (j : Int))).toNat) := meas_next hlt
        obtain ⟨wa, wb⟩ := sc_wrap (z := (j : Int) + 1) (by omega) (by have := HNW.out; omega)
        have NQ := neq_cnt3 cr cw cf
        clear hTA hTB hTC hu hx hsr hcr hcw hcf hOB hK KC RI RIF HVN HN e2 e3 hbl HPB FIT FIT3 LOWB LOW I0 S3 ST T2 ha
        generalize OB.err = er at *
        go_upto_region 17 with fail
        go_region_held3 (fun w' : World => (w'.cell? ⟨bl, o + j * 4, none⟩ = some (.int .i64 a.kind) ∧ w'.cell? ⟨bl, o + j * 4 + 1, none⟩ = some (.int .i64 a.num) ∧ w'.cell? ⟨bl, o + j * 4 + 2, none⟩ = some (.slice x2 a.pts.length y2) ∧ w'.cell? ⟨bl, o + j * 4 + 3, none⟩ = some (.slice x3 a.keep.length y3))) (first | exact KS.out _ K11.out | exact KS.out _ K10.out | exact KS.out _ K9.out | exact KS.out _ K8.out | exact KS.out _ K7.out | exact KS.out _ K6.out | exact KS.out _ K5.out | exact KS.out _ K4.out | exact KS.out _ K3.out | exact KS.out _ K2.out | exact KS.out _ KA1.out) (first
          | (go_at_call 28; refine (ASK.out _ T10.out).2.2.2.2.2.2.2.mono ?_; rintro e z9 ⟨rfl, K11, T11⟩)
          | (go_at_call 28; refine (ASK.out _ T9.out).2.2.2.2.2.2.1.mono ?_; rintro e z8 ⟨rfl, K10, T10⟩)
          | (go_at_call 29; refine (ASK.out _ T8.out).2.2.2.2.2.1.mono ?_; rintro e z9 ⟨rfl, K9, T9⟩)
          | (go_at_call 29; refine (ASK.out _ T7.out).2.2.2.2.1.mono ?_; rintro e z8 ⟨rfl, K8, T8⟩)
          | (go_at_call 43; refine (ASK.out _ T6.out).2.2.2.1.mono ?_; rintro e z7 ⟨rfl, K7, T7⟩)
          | (go_at_call 43; refine (ASK.out _ T5.out).2.2.1.mono ?_; rintro e z6 ⟨rfl, K6, T6⟩)
          | (go_at_call 35; refine (ASK.out _ T4.out).2.1.mono ?_; rintro e z5 ⟨rfl, K5, T5⟩)
          | (go_at_call 35; refine (ASK.out _ T3.out).1.mono ?_; rintro e z4 ⟨rfl, K4, T4⟩)
          | (go_at_call 38; refine (CCB.out _ T2.out).mono ?_; rintro e z3 ⟨rfl, K3, T3⟩)
          | (go_at_call 38; refine (CCA.out _ TA1.out).mono ?_; rintro e z2 ⟨rfl, K2, T2⟩))
        all_goals go_wp2_with fail
        all_goals exact ⟨⟨j + 1, hlt, by first | rfl | (rw [Int.natCast_add]; rfl) | go_num, END.out _ T11.out⟩, MEAS.out⟩
    · have hj1 : ¬ (j : Int) < N := by omega
      have t1 := Lib.hid ST.out.cut
      obtain ⟨Im, hIm⟩ : ∃ Im, Im = (y.cut []).image 0 := ⟨_, rfl⟩
      replace hIm := Lib.hid hIm
      obtain ⟨cv, F9, cv', F9', H⟩ := T0.out
      have CUT1 := Lib.hid (bcut_any b F9 y wr (H.get 0 rfl) (.slice none 0 0) [] (.inl ⟨rfl, _, _, rfl⟩) (fun h => absurd rfl h) (fun d hd => by cases hd))
      replace H := Lib.hid H
      clear HVN HN ST T0 HPS HPB0 LPT FIT LOW
      go_wp2_with fail
      refine CUT1.out.mono ?_
      rintro e wd ⟨rfl, T⟩
      obtain ⟨Fa, Ha⟩ := H.out.act 0 rfl T.out
      have Ha : Side w4 wd (BayT b (y.cut []) Fa :: devT D b J.slot J.br :: walT W D R J cv :: ringT R J.S J.t J.u :: comT cv J.commit :: jts c V D' R' J cv' y F9' LT) := Ha
      have CUT2 := Lib.hid (bcut_any c F9' y wd (Ha.get 5 rfl) (.slice none 0 0) [] (.inl ⟨rfl, _, _, rfl⟩) (fun h => absurd rfl h) (fun d hd => by cases hd))
      replace Ha := Lib.hid Ha
      clear CUT1 H T
      go_wp2_with fail
      refine CUT2.out.mono ?_
      rintro e we ⟨rfl, T⟩
      obtain ⟨Fb, Hb⟩ := Ha.out.act 5 rfl T.out
      have Hb : Side w4 we (BayT b (y.cut []) Fa :: devT D b J.slot J.br :: walT W D R J cv :: ringT R J.S J.t J.u :: comT cv J.commit :: jts c V D' R' J cv' (y.cut []) Fb LT) := Hb
      have IM1 := bimage_any b Fa _ we (Hb.get 0 rfl) 0 ⟨by decide, by decide⟩
      rw [t1.out, ← hIm.out] at IM1
      have IL : Hid (Im.length ≤ 1048576) := by rw [hIm.out]; exact wl_image_len (Hb.get 0 rfl) 0
      replace IM1 := Lib.hid IM1
      replace Hb := Lib.hid Hb
      clear CUT2 Ha T
      go_wp2_with fail
      refine IM1.out.mono ?_
      rintro e wf ⟨ta, ua, rfl, O, C⟩
      obtain ⟨ao, ac, rfl⟩ := owns_slice O.out
      have Hc := Hb.out.own O.out C.out
      have IM2 := bimage_any c Fb _ wf (Hc.get 6 rfl) 0 ⟨by decide, by decide⟩
      rw [t1.out, ← hIm.out] at IM2
      replace IM2 := Lib.hid IM2
      replace Hc := Lib.hid Hc
      clear IM1 Hb O C
      go_wp2_with fail
      refine IM2.out.mono ?_
      rintro e wg ⟨tb, ub', rfl, O, C⟩
      obtain ⟨bo, bc, rfl⟩ := owns_slice O.out
      have Hd := Hc.out.own O.out C.out
      have SM := Lib.hid (same_true _ _ (ints Im) wg (wl_sl2 (Hd.get 1 rfl)) (wl_sl2 (Hd.get 0 rfl)) (by have := IL.out; rw [ints_length]; omega))
      have CE := Lib.hid (CW.out.trans Hd.chg)
      clear IM2 Hc Hd O C
      go_wp2_with (go_at_call 47; refine SM.out.mono ?_; rintro e wh ⟨rfl, qh, rfl⟩)
      go_ret
      exact ⟨rfl, CE.out.drewN qh⟩

end Go.Proofs.YtaggfbgbmiifaaaGreat
