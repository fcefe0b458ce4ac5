/-
  WalCosts' walk. By an AI agent.
-/
import Derived.Test.YtaggfbgbmiifaaaGreatBWlKnR
import Derived.Test.YtaggfbgbmiifaaaGreatBWlMuch
import Derived.Test.YtaggfbgbmiifaaaGreatBWlUp
import Derived.Test.YtaggfbgbmiifaaaGreatBByMove
import Derived.Deep.RegionHeld3
namespace Go.Proofs.YtaggfbgbmiifaaaGreat
open Go.RowKit Go.Maps Crc

/-- How a journal stands behind so many ops. -/
structure CSt (es : List WOpD) (n j : Nat) (y : Bay) (J : Wl.Jn) (d : Dk) (B L : Nat) : Prop where
  ok : Wl.Ok y J d B
  b : B ≤ 3 + j
  low : y.Low L
  l : L ≤ 3000 + 3 * wopW es j
  slot : J.slot = 0
  size : J.S = n

theorem CSt.begin {es : List WOpD} {n : Nat} (n5 : 5 ≤ n) (n2 : n ≤ 2048) : ∃ d, CSt es n 0 (Wl.fmtIo (Bay.new [2050]) 0 n 3).1 (Wl.begun 0 n ⟨3, 1, 0⟩ 0 1) d 3 2050 := by
  obtain ⟨_, d, h⟩ := Wl.cost_begin n5 n2
  exact ⟨d, h, Nat.le_refl _, (Wl.fmtIo_low (Bay.new_low [2050]) 0 n 3).mono (by omega), by omega, rfl, rfl⟩

theorem CSt.next {es : List WOpD} {n j : Nat} {y : Bay} {J : Wl.Jn} {d : Dk} {B L nw nf k : Nat} {o : Wl.Out} {a : WOpD} (h : CSt es n j y J d B L) (ha : es[j]? = some a) (c : Wl.Costs y J B o nw nf) (hl : o.bay.Low (L + k)) (hk : k ≤ 3 * a.weight) : ∃ d', CSt es n (j + 1) o.bay o.jn d' (B + 1) (L + k) := by
  obtain ⟨d', ok⟩ := c.ok
  refine ⟨d', ok, by have := h.b; omega, hl, ?_, c.slot.trans h.slot, c.size.trans h.size⟩
  rw [wopW_succ ha]
  have := h.l
  omega

theorem CSt.idle {es : List WOpD} {n j : Nat} {y : Bay} {J : Wl.Jn} {d : Dk} {B L : Nat} {a : WOpD} (h : CSt es n j y J d B L) (ha : es[j]? = some a) : ∃ d', CSt es n (j + 1) y J d' (B + 1) (L + 0) :=
  h.next ha (h.ok.same (e := 1) (by decide) 0 0) h.low (by omega)

theorem CSt.fit {es : List WOpD} {n j : Nat} {y : Bay} {J : Wl.Jn} {d : Dk} {B L : Nat} (h : CSt es n j y J d B L) (hj : j ≤ 100000) : J.Fit := h.ok.fit (by have := h.b; omega)

/-- So many operations more, if it is not refused. -/
def CDone (y : Bay) (o : Wl.Out) (nw nf : Int) : Prop :=
  o.bay.reads = y.reads ∧ (o.err = 0 → (o.bay.writes : Int) = y.writes + nw ∧ (o.bay.flushes : Int) = y.flushes + nf) ∧ (o.err ≠ 0 → o.bay.writes = y.writes ∧ o.bay.flushes = y.flushes)

/-- What a call comes to, in the walk: its error, the journal behind it, and so many operations. -/
def CPost (w0 : World) (es : List WOpD) (n j b W D R : Nat) (y : Bay) (ts : List Thing) (nw nf : Int) (e : Ending) (w' : World) : Prop :=
  ∃ (o : Wl.Out) (cv : Value) (F : List Nat) (d : Dk) (B L : Nat), e = .returned (.int .u16 o.err) ∧ Hid (CSt es n (j + 1) o.bay o.jn d B L) ∧
    Hid (CDone y o nw nf) ∧ Hid (Side w0 w' (jts b W D R o.jn cv o.bay F ts))

theorem wopW_le {es : List WOpD} (h : wopW es es.length ≤ 5000) : es.length ≤ 5000 ∧ ∀ j, wopW es j ≤ 5000 := by
  have h1 : ∀ l : List WOpD, l.length ≤ (l.map WOpD.weight).sum := fun l => by
    induction l with
    | nil => exact Nat.le_refl 0
    | cons a l ih =>
      rw [List.map_cons, List.sum_cons, List.length_cons]
      have : 1 ≤ a.weight := by unfold WOpD.weight; omega
      omega
  have h2 : ∀ (l : List WOpD) (j : Nat), ((l.take j).map WOpD.weight).sum ≤ (l.map WOpD.weight).sum := fun l => by
    induction l with
    | nil => intro j; simp
    | cons a l ih =>
      intro j
      cases j with
      | zero => simp
      | succ j =>
        rw [List.take_succ_cons, List.map_cons, List.sum_cons, List.map_cons, List.sum_cons]
        have := ih j
        omega
  unfold wopW at h ⊢
  rw [List.take_length] at h
  exact ⟨Nat.le_trans (h1 es) h, fun j => Nat.le_trans (h2 es j) h⟩

section
variable {w0 X : World} {es : List WOpD} {n j b W D R : Nat} {y : Bay} {J : Wl.Jn} {d : Dk} {B L : Nat} {cv : Value} {F : List Nat} {ts : List Thing} {a : WOpD}

theorem CSt.bound (h : CSt es n j y J d B L) (hw : wopW es es.length ≤ 5000) : L ≤ 20000 := by
  have := h.l
  have := (wopW_le hw).2 j
  omega

theorem CPost.of {e : Ending} {w' : World} {o : Wl.Out} {nw nf k : Nat} {cv' : Value} {F' : List Nat} (h : CSt es n j y J d B L) (ha : es[j]? = some a) (c : Wl.Costs y J B o nw nf) (hl : o.bay.Low (L + k)) (hk : k ≤ 3 * a.weight) {mw mf : Int} (hm : o.err = 0 → mw = nw ∧ mf = nf) (he : e = .returned (.int .u16 o.err)) (H : Side w0 w' (jts b W D R o.jn cv' o.bay F' ts)) : CPost w0 es n j b W D R y ts mw mf e w' := by
  obtain ⟨d', s⟩ := h.next ha c hl hk
  exact ⟨o, cv', F', d', _, _, he, s, ⟨c.reads, fun q => by have := c.did q; have := hm q; omega, c.no⟩, H⟩

theorem meas_next {N j : Nat} (h : j < N) : N - (intOf (.int .i64 ((j : Int) + 1))).toNat < N - (intOf (.int .i64 (j : Int))).toNat := by
  show N - ((j : Int) + 1).toNat < N - ((j : Int)).toNat
  omega

end

end Go.Proofs.YtaggfbgbmiifaaaGreat

/-
  'begun' and 'calls': a new journal on a bay of two disks, and one of the five calls. By an AI agent.
-/
namespace Go.Proofs.YtaggfbgbmiifaaaGreat
open Go.RowKit Go.Maps Crc

namespace Wl

/-- What one of the five calls comes to. -/
def callJ (y : Bay) (J : Jn) (a : WOpD) : Out :=
  if a.kind = 1 then logJ y J (scErr J.ep J.next a.pts) (a.pts.map pdOf) else
  if a.kind = 2 then sealJ y J else if a.kind = 3 then syncJ y J else if a.kind = 4 then passJ y J J.ep else
  if a.kind = 5 then passJ y J (J.ep + 1) else ⟨0, y, J⟩

/-- A bay of two empty disks, and a new journal on the first. -/
def twoBay (n : Nat) : Bay := Bay.new [((2 + n : Nat) : Int), ((2 + n : Nat) : Int)]
def bgBay (n : Nat) : Bay := (fmtIo (twoBay n) 0 n 1).1
def bgJn (n : Nat) : Jn := begun 0 n ⟨1, 1, 0⟩ 0 1

theorem two_up (n : Nat) (s : Int) (hs : s = 0 ∨ s = 1) : (twoBay n).Up s (Dk.new (2 + n)) := by
  have e : Bay.slotOf ((2 + n : Nat) : Int) = ⟨some ⟨Dk.new (2 + n), none⟩, none, none⟩ := by
    unfold Bay.slotOf
    rw [if_neg (show ¬ ((2 + n : Nat) : Int) = 0 by omega)]
    rfl
  have e2 : twoBay n = ⟨[⟨some ⟨Dk.new (2 + n), none⟩, none, none⟩, ⟨some ⟨Dk.new (2 + n), none⟩, none, none⟩], false, none, 0, 0, 0⟩ := by
    unfold twoBay Bay.new
    rw [List.map_cons, List.map_cons, e]
    rfl
  rw [e2]
  rcases hs with rfl | rfl <;> exact ⟨rfl, rfl, rfl, rfl⟩

theorem bg_up {n : Nat} (n5 : 5 ≤ n) (n2 : n ≤ 2048) : (fmtIo (twoBay n) 0 n 1).2 = 0 ∧ ∃ d', Ok (bgBay n) (bgJn n) d' 3 := by
  have hu : (twoBay n).Up 0 (Dk.new (2 + n)) := two_up n 0 (.inl rfl)
  obtain ⟨d', h1, _, h3, _⟩ := fmt_up (s := 0) (d := Dk.new (2 + n)) (B := 3) (n := n) (ep := 1) hu n5 n2 (by show 2 + n ≤ (List.replicate (2 + n) (List.replicate 128 0)).length; rw [List.length_replicate]; omega) (by decide) ⟨by decide, by decide⟩
  exact ⟨h1, d', h3⟩

end Wl

/-- The journal stands behind one more call. -/
theorem CSt.call {es : List WOpD} {n j : Nat} {y : Bay} {J : Wl.Jn} {d : Dk} {B L : Nat} {a : WOpD} (h : CSt es n j y J d B L) (ha : es[j]? = some a) (hb : ∀ p ∈ a.pts, By p.d) : ∃ d' B' L', CSt es n (j + 1) (Wl.callJ y J a).bay (Wl.callJ y J a).jn d' B' L' := by
  unfold Wl.callJ
  split
  · have hg : scErr J.ep J.next a.pts = 0 → Sc.Good (a.pts.map pdOf) := fun q => (scErr_zero q hb).2.1
    have low := Wl.logJ_low h.low J (scErr J.ep J.next a.pts) (a.pts.map pdOf)
    rw [List.length_map] at low
    obtain ⟨d', s⟩ := h.next ha (h.ok.logCosts hg) low (by unfold WOpD.weight; omega)
    exact ⟨d', _, _, s⟩
  split
  · obtain ⟨d', s⟩ := h.next ha h.ok.sealCosts (Wl.sealJ_low h.low J) (by unfold WOpD.weight; omega)
    exact ⟨d', _, _, s⟩
  split
  · obtain ⟨d', s⟩ := h.next ha h.ok.syncCosts.2 (Wl.syncJ_low h.low J) (by unfold WOpD.weight; omega)
    exact ⟨d', _, _, s⟩
  split
  · obtain ⟨d', s⟩ := h.next ha (h.ok.passCosts J.ep (Nat.le_succ_of_le h.ok.ep)) (Wl.passJ_low h.low J J.ep) (by unfold WOpD.weight; omega)
    exact ⟨d', _, _, s⟩
  split
  · obtain ⟨d', s⟩ := h.next ha (h.ok.passCosts (J.ep + 1) (by have := h.ok.ep; omega)) (Wl.passJ_low h.low J (J.ep + 1)) (by unfold WOpD.weight; omega)
    exact ⟨d', _, _, s⟩
  · obtain ⟨d', s⟩ := h.idle ha
    exact ⟨d', _, _, s⟩

set_option maxHeartbeats 4000000 in
set_option maxRecDepth 100000 in
theorem calls_any {w0 X : World} {b W D R : Nat} {J : Wl.Jn} {cv : Value} {y : Bay} {F : List Nat} {ts : List Thing} (H : Side w0 X (jts b W D R J cv y F ts)) (hf : J.Fit) (hs : I64 J.slot) (hl : y.Low 999990000)
    (a : WOpD) (h2 : Pts X a.ptsV a.pts) (hb : ∀ p ∈ a.pts, By p.d ∧ Cap p.v) (h3 : ∃ o n c, a.keepV = .slice o n c) :
    Calls Tryz.prog 38 #[.pointer (some ⟨W, 0, none⟩), .agg #[.int .i64 a.kind, .int .i64 a.num, a.ptsV, a.keepV]] X (AnsL w0 b W D R ts (Wl.callJ y J a)) := by
  obtain ⟨o2, c2, e2⟩ := h2.slice
  obtain ⟨o3, n3, c3, e3⟩ := h3
  obtain ⟨wB, hwB⟩ : ∃ wB, wB = X.alloc (.cells #[.int .i64 a.kind, .int .i64 a.num, a.ptsV, a.keepV] 61) := ⟨_, rfl⟩
  have HB : Side w0 wB (jts b W D R J cv y F (blkT X.heap.size 61 [.int .i64 a.kind, .int .i64 a.num, a.ptsV, a.keepV] :: ts)) := by rw [hwB]; exact H.behind _ [_, _, _, _]
  have k0 := (HB.get 5 rfl : Blk _ _ _ _).cell (j := 0) rfl
  have k2 := (HB.get 5 rfl : Blk _ _ _ _).cell (j := 2) rfl
  have hPT : Pts wB a.ptsV a.pts := by rw [hwB]; exact h2.chg ((Chg.refl [] X).alloc _)
  have C1 := Lib.hid (wlog_any HB hf hs hl _ a.pts hPT hb)
  have C2 := Lib.hid (wseal_any HB hf hs (hl.mono (by decide)))
  have C3 := Lib.hid (wsync_any HB hs (hl.mono (by decide)))
  have C4 := Lib.hid (wreclaim_any HB hf hs (hl.mono (by decide)))
  have C5 := Lib.hid (wrenew_any HB hf hs (hl.mono (by decide)))
  have fin : Hid (∀ (o : Wl.Out) e w', AnsL w0 b W D R (blkT X.heap.size 61 [.int .i64 a.kind, .int .i64 a.num, a.ptsV, a.keepV] :: ts) o e w' → AnsL w0 b W D R ts o e w') := fun o e w' ⟨h1, F', cv', h2⟩ => ⟨h1, F', cv', h2.out.less⟩
  have fin2 : Hid (∀ (o : Wl.Out) e w', Ans w0 b W D R cv (blkT X.heap.size 61 [.int .i64 a.kind, .int .i64 a.num, a.ptsV, a.keepV] :: ts) o e w' → AnsL w0 b W D R ts o e w') := fun o e w' ⟨h1, F', h2⟩ => ⟨h1, F', cv, h2.out.less⟩
  have f0 : Hid (AnsL w0 b W D R ts ⟨0, y, J⟩ (.returned (.int .u16 0)) wB) := ⟨rfl, F, cv, HB.less⟩
  clear HB hPT h2 H hf hs hl
  rw [e2] at k2 C1 C2 C3 C4 C5 fin fin2 hwB ⊢
  rw [e3] at C1 C2 C3 C4 C5 fin fin2 hwB ⊢
  clear e2 e3
  subst hwB
  unfold Wl.callJ
  generalize a.kind = k at *
  generalize a.num = num at *
  go_enter Tryz.func38, Tryz.ntmps38
  by_cases q1 : k = 1
  · subst q1
    rw [if_pos rfl]
    go_wp2_with (go_at_call 30; refine C1.out.mono ?_; rintro e w' ⟨rfl, F', cv', h⟩)
    go_ret
    exact fin.out _ _ _ ⟨rfl, F', cv', h⟩
  rw [if_neg q1]
  have b1 : (k == 1) = false := by simpa using q1
  by_cases q2 : k = 2
  · subst q2
    rw [if_pos rfl]
    go_wp2_with (go_at_call 31; refine C2.out.mono ?_; rintro e w' ⟨rfl, F', h⟩)
    go_ret
    exact fin2.out _ _ _ ⟨rfl, F', h⟩
  rw [if_neg q2]
  have b2 : (k == 2) = false := by simpa using q2
  by_cases q3 : k = 3
  · subst q3
    rw [if_pos rfl]
    go_wp2_with (go_at_call 32; refine C3.out.mono ?_; rintro e w' ⟨rfl, F', h⟩)
    go_ret
    exact fin2.out _ _ _ ⟨rfl, F', h⟩
  rw [if_neg q3]
  have b3 : (k == 3) = false := by simpa using q3
  by_cases q4 : k = 4
  · subst q4
    rw [if_pos rfl]
    go_wp2_with (go_at_call 33; refine C4.out.mono ?_; rintro e w' ⟨rfl, F', h⟩)
    go_ret
    exact fin2.out _ _ _ ⟨rfl, F', h⟩
  rw [if_neg q4]
  have b4 : (k == 4) = false := by simpa using q4
  by_cases q5 : k = 5
  · subst q5
    rw [if_pos rfl]
    go_wp2_with (go_at_call 34; refine C5.out.mono ?_; rintro e w' ⟨rfl, F', h⟩)
    go_ret
    exact fin2.out _ _ _ ⟨rfl, F', h⟩
  rw [if_neg q5]
  have b5 : (k == 5) = false := by simpa using q5
  go_wp2_with fail
  go_ret
  exact f0

/-- Reclaim and Renew, when they are not refused. -/
theorem Wl.Ok.passing_ok {y : Bay} {J : Wl.Jn} {d : Dk} {B : Nat} (h : Wl.Ok y J d B) (ep : Nat) (hs : J.sure = true) (hok : Ck.Ok ⟨ep, J.next, (J.head : Nat)⟩) : (Wl.passJ y J ep).err = 0 ∧ (Wl.passJ y J ep).jn = Wl.passed J ep ∧
    y.Went (Wl.passJ y J ep).bay J.slot { d with last := (d.cache ++ [(1, Ck.enc ⟨ep, J.next, (J.head : Nat)⟩)]).foldl Dk.lay d.last, cache := [] } 0 1 1 := by
  have hlen : (Ck.enc ⟨ep, J.next, (J.head : Nat)⟩).length = 128 := by
    unfold Ck.enc
    rw [if_pos hok]
    exact Rec.sector_length (by show (1 : Nat) ≤ 25; decide)
  have hz := h.size
  obtain ⟨w1, w2⟩ := h.up.write (p := 1) (x := Ck.enc ⟨ep, J.next, (J.head : Nat)⟩) (by omega) hlen
  obtain ⟨b1, b2⟩ := Wl.fl_up w2.up
  have he : Ck.err ⟨ep, J.next, (J.head : Nat)⟩ = 0 := by unfold Ck.err; rw [if_pos hok]
  have e1 : Wl.passIo y J ep = Wl.fl J.slot (y.write J.slot ((1 : Nat) : Int) (Ck.enc ⟨ep, J.next, (J.head : Nat)⟩), 0) := by
    unfold Wl.passIo
    rw [h.br]
    have : Wl.wr J.slot (y, 0) 1 (Ck.enc ⟨ep, J.next, (J.head : Nat)⟩) = (y.write J.slot ((1 : Nat) : Int) (Ck.enc ⟨ep, J.next, (J.head : Nat)⟩), 0) := by
      unfold Wl.wr
      rw [if_pos rfl]
      exact Prod.ext rfl w1
    rw [this]
  have e : Wl.passJ y J ep = ⟨0, (Wl.passIo y J ep).1, (Wl.passed J ep).broke 0⟩ := by
    unfold Wl.passJ Wl.ends
    rw [if_neg (fun q => q h.br), if_neg (by rw [hs]; decide), if_neg (by rw [he]; exact fun q => q rfl), if_pos (by rw [e1]; exact b1)]
  have e4 : (Wl.passed J ep).broke 0 = Wl.passed J ep := by unfold Wl.Jn.broke Wl.passed; rw [h.br]
  have w := w2.trans b2
  rw [← e1] at w
  rw [e, e4]
  exact ⟨rfl, rfl, by simpa using w⟩

theorem Wl.Ok.passing_no {y : Bay} {J : Wl.Jn} {d : Dk} {B : Nat} (h : Wl.Ok y J d B) (ep : Nat) (hno : ¬ (J.sure = true ∧ Ck.Ok ⟨ep, J.next, (J.head : Nat)⟩)) : Wl.passJ y J ep = ⟨if J.sure = false then 1 else 80, y, J⟩ := by
  unfold Wl.passJ
  rw [if_neg (fun q => q h.br)]
  by_cases hs : J.sure = false
  · rw [if_pos hs, if_pos hs]
  · have he : Ck.err ⟨ep, J.next, (J.head : Nat)⟩ = 80 := by
      unfold Ck.err
      rw [if_neg (fun q => hno ⟨by simpa using hs, q⟩)]
    rw [if_neg hs, if_neg hs, he, if_pos (by decide)]

theorem Wl.pass_acts {J : Wl.Jn} {d : Dk} {B : Nat} (ep : Nat) : ∃ (e : Int) (J' : Wl.Jn) (d' : Dk), ∀ y, Wl.Ok y J d B → (Wl.passJ y J ep).err = e ∧ (Wl.passJ y J ep).jn = J' ∧ ∃ nr nw nf, y.Went (Wl.passJ y J ep).bay J.slot d' nr nw nf := by
  by_cases hp : J.sure = true ∧ Ck.Ok ⟨ep, J.next, (J.head : Nat)⟩
  · exact ⟨_, _, _, fun y h => ⟨(h.passing_ok ep hp.1 hp.2).1, (h.passing_ok ep hp.1 hp.2).2.1, 0, 1, 1, (h.passing_ok ep hp.1 hp.2).2.2⟩⟩
  · exact ⟨_, J, d, fun y h => by rw [h.passing_no ep hp]; exact ⟨rfl, rfl, 0, 0, 0, .refl h.up⟩⟩

/-- What a call does to the disk of its journal, in whatever bay that disk is. -/
theorem Wl.call_acts {J : Wl.Jn} {d : Dk} {B : Nat} {a : WOpD} (hb : ∀ p ∈ a.pts, By p.d) : ∃ (e : Int) (J' : Wl.Jn) (d' : Dk), ∀ y, Wl.Ok y J d B → (Wl.callJ y J a).err = e ∧ (Wl.callJ y J a).jn = J' ∧ ∃ nr nw nf, y.Went (Wl.callJ y J a).bay J.slot d' nr nw nf := by
  unfold Wl.callJ
  split
  · have hg : scErr J.ep J.next a.pts = 0 → Sc.Good (a.pts.map pdOf) := fun q => (scErr_zero q hb).2.1
    by_cases h0 : Wl.logErr J (scErr J.ep J.next a.pts) (a.pts.map pdOf).length = 0
    case neg => exact ⟨_, J, d, fun y h => by rw [h.log_no h0]; exact ⟨rfl, rfl, 0, 0, 0, .refl h.up⟩⟩
    by_cases hbr : J.br = 0
    case neg => exact ⟨0, J, d, fun y h => absurd h.br hbr⟩
    have he : scErr J.ep J.next a.pts = 0 := by
      by_cases q : scErr J.ep J.next a.pts = 0
      · exact q
      · unfold Wl.logErr at h0
        rw [if_neg (fun k => k hbr), if_pos q] at h0
        exact h0
    rw [he] at h0 ⊢
    refine ⟨0, Wl.logged J (a.pts.map pdOf), { d with last := (d.cache ++ J.puts (Wl.body J (a.pts.map pdOf))).foldl Dk.lay d.last, cache := [] }, fun y h => ?_⟩
    obtain ⟨d', h1, h2, _, h4, rfl⟩ := h.log (hg he) h0
    exact ⟨h1, h2, _, _, _, h4⟩
  split
  · cases hc : J.commit with
    | none =>
      refine ⟨1, J, d, fun y h => ?_⟩
      rcases h.sealing with ⟨_, e⟩ | ⟨c, d', k, _⟩
      · rw [e]; exact ⟨rfl, rfl, 0, 0, 0, .refl h.up⟩
      · rw [hc] at k; cases k
    | some c0 =>
      refine ⟨0, Wl.sealed J, { d with cache := d.cache ++ [(J.place (J.cost - 1), c0)] }, fun y h => ?_⟩
      rcases h.sealing with ⟨k, _⟩ | ⟨c, d', k, h1, h2, _, h4, rfl⟩
      · rw [hc] at k; cases k
      · obtain rfl : c0 = c := Option.some.inj (hc.symm.trans k)
        exact ⟨h1, h2, _, _, _, h4⟩
  split
  · cases hs : J.sure with
    | true =>
      refine ⟨0, J, d, fun y h => ?_⟩
      rcases h.syncing with ⟨_, e⟩ | ⟨d', k, _⟩
      · rw [e]; exact ⟨rfl, rfl, 0, 0, 0, .refl h.up⟩
      · rw [hs] at k; cases k
    | false =>
      refine ⟨0, { J with sure := true }, { d with last := d.cache.foldl Dk.lay d.last, cache := [] }, fun y h => ?_⟩
      rcases h.syncing with ⟨k, _⟩ | ⟨d', _, h1, h2, _, h4, rfl⟩
      · rw [hs] at k; cases k
      · exact ⟨h1, h2, _, _, _, h4⟩
  split
  · exact Wl.pass_acts J.ep
  split
  · exact Wl.pass_acts (J.ep + 1)
  · exact ⟨0, J, d, fun y h => ⟨rfl, rfl, 0, 0, 0, .refl h.up⟩⟩

theorem begun_no (ring : Int) (h : ¬ (5 ≤ ring ∧ ring ≤ 2048)) (w : World) : Calls Tryz.prog 44 #[.int .i64 ring] w fun e w' => e = .returned (.tuple #[.pointer none, .pointer none]) ∧ w = w' := by
  by_cases h1 : ring < 5
  · clear h
    go_enter Tryz.func44, Tryz.ntmps44
    go_wp2_with fail
    go_ret2
    exact ⟨rfl, rfl⟩
  · have h2 : 2048 < ring := by omega
    clear h
    go_enter Tryz.func44, Tryz.ntmps44
    go_wp2_with fail
    go_ret2
    exact ⟨rfl, rfl⟩

/-- A new journal, beside what there is. -/
def BegunW (w0 : World) (n : Nat) (ts : List Thing) (e : Ending) (w' : World) : Prop :=
  ∃ b W D R F, e = .returned (.tuple #[.pointer (some ⟨b, 0, none⟩), .pointer (some ⟨W, 0, none⟩)]) ∧ Hid (Side w0 w' (jts b W D R (Wl.bgJn n) (.slice none 0 0) (Wl.bgBay n) F ts))

set_option maxHeartbeats 4000000 in
set_option maxRecDepth 100000 in
theorem begun_ok {w0 w : World} {ts : List Thing} (H : Side w0 w ts) {n : Nat} (n5 : 5 ≤ n) (n2 : n ≤ 2048) : Calls Tryz.prog 44 #[.int .i64 (n : Int)] w (BegunW w0 n ts) := by
  have etwo : Wl.twoBay n = Bay.new [2 + (n : Int), 2 + (n : Int)] := by unfold Wl.twoBay; rw [Int.natCast_add]; rfl
  have NW : Hid (Calls Tryz.prog 27 #[.slice (some ⟨w.heap.size, 0, none⟩) 2 2] (w.alloc (.cells #[.int .i64 (2 + (n : Int)), .int .i64 (2 + (n : Int))] 3)) fun e w'' => ∃ b F, e = .returned (.tuple #[.pointer (some ⟨b, 0, none⟩), .int .u16 0]) ∧ Hid (Side w0 w'' (BayT b (Wl.twoBay n) F :: ts))) := by
    have BX := Blk.made w [.int .i64 (2 + (n : Int)), .int .i64 (2 + (n : Int))] 3
    refine (bnew_any (.slice (some ⟨w.heap.size, 0, none⟩) 2 2) [2 + (n : Int), 2 + (n : Int)] (w.alloc (.cells #[.int .i64 (2 + (n : Int)), .int .i64 (2 + (n : Int))] 3)) (.inr ⟨_, 0, 2, rfl, BX.lt, fun j u hj => by rw [Nat.zero_add]; exact BX.cell hj⟩) (fun z hz => by
      have : z = 2 + (n : Int) := by simpa using hz
      rw [this]
      constructor <;> omega) (by show (2 : Nat) ≤ _; decide)).mono ?_
    rintro e w1 (⟨hno, _⟩ | ⟨_, b, F, h1, D, N, C⟩)
    · refine absurd (Bay.newErr_good (by show (1 : Nat) ≤ 2; decide) (by show (2 : Nat) ≤ 17; decide) (fun z hz => ?_)) hno
      have : z = 2 + (n : Int) := by simpa using hz
      omega
    · rw [etwo]
      exact ⟨b, F, h1, (H.quiet ((Chg.refl [] w).alloc _)).add C.out D.out (fun k hk => by have := N.out k hk; simp at this; simp; omega)⟩
  have FM : Hid (∀ w' b F, Side w0 w' (BayT b (Wl.twoBay n) F :: ts) → Calls Tryz.prog 15 #[.pointer (some ⟨b, 0, none⟩), .int .i64 0, .int .i64 (n : Int), .int .u64 1] w' (Fmtd w0 b (Wl.twoBay n) 0 (n : Int) 1 ts)) := fun w' b F h => wformat_any h 0 (n : Int) ⟨by decide, by decide⟩ ⟨by omega, by omega⟩ 1 (by decide) ((Bay.new_low _).mono (by decide))
  obtain ⟨wa, wb⟩ := sc_wrap (z := 2 + (n : Int)) (by omega) (by omega)
  have h1 : ¬ (n : Int) < 5 := by omega
  have h2 : ¬ (2048 : Int) < (n : Int) := by omega
  clear H etwo
  go_enter Tryz.func44, Tryz.ntmps44
  go_wp2_with (go_at_call 27; refine NW.out.mono ?_; rintro e w1 ⟨b, F, rfl, H1⟩; have FM1 := Lib.hid (FM.out _ _ _ H1.out); clear NW FM)
  refine FM1.out.mono ?_
  rintro e w2 (⟨hno, _⟩ | ⟨_, m, hm, _, _, ⟨hno, _⟩ | ⟨_, W, D, R, F2, rfl, H2⟩⟩)
  · exact absurd ⟨by decide, by omega, by omega⟩ hno
  · obtain rfl : n = m := by omega
    exact absurd (Wl.bg_up n5 n2).1 hno
  · obtain rfl : n = m := by omega
    clear FM1
    go_wp2_with fail
    go_ret2
    exact ⟨b, W, D, R, F2, rfl, H2⟩

end Go.Proofs.YtaggfbgbmiifaaaGreat

/-
  Two journals side by side, and what a refused call leaves. By an AI agent.
-/
namespace Go.Proofs.YtaggfbgbmiifaaaGreat
open Go.RowKit Go.Maps Crc

section
variable {w0 w : World} {b W D R c V D' R' : Nat} {J J' : Wl.Jn} {cv cv' : Value} {y y' : Bay} {F F' : List Nat} {ts : List Thing}

/-- The other one ahead. -/
theorem Side.jswap (H : Side w0 w (jts b W D R J cv y F (jts c V D' R' J' cv' y' F' ts))) : Side w0 w (jts c V D' R' J' cv' y' F' (jts b W D R J cv y F ts)) :=
  H.perm (by
    show ([BayT b y F, devT D b J.slot J.br, walT W D R J cv, ringT R J.S J.t J.u, comT cv J.commit] ++ ([BayT c y' F', devT D' c J'.slot J'.br, walT V D' R' J' cv', ringT R' J'.S J'.t J'.u, comT cv' J'.commit] ++ ts)).Perm
      ([BayT c y' F', devT D' c J'.slot J'.br, walT V D' R' J' cv', ringT R' J'.S J'.t J'.u, comT cv' J'.commit] ++ ([BayT b y F, devT D b J.slot J.br, walT W D R J cv, ringT R J.S J.t J.u, comT cv J.commit] ++ ts))
    rw [← List.append_assoc, ← List.append_assoc]
    exact List.Perm.append_right _ List.perm_append_comm)

end

/-- No other disk is to come into the journal's slot. -/
def NoCome (y : Bay) (s : Int) : Prop := (y.slots[s.toNat]?).bind (·.coming) = none

/-- What is to come into the slots is the same. -/
def Calm (y y' : Bay) : Prop := y'.slots.map (·.coming) = y.slots.map (·.coming)

theorem Calm.trans {y y1 y2 : Bay} (h : Calm y y1) (k : Calm y1 y2) : Calm y y2 := Eq.trans k h

theorem Calm.none {y y' : Bay} (h : Calm y y') {s : Int} (hc : NoCome y s) : NoCome y' s := by
  have e := congrArg (fun l => l[s.toNat]?) h
  simp only [List.getElem?_map] at e
  unfold NoCome at hc ⊢
  cases h1 : y.slots[s.toNat]? with
  | none =>
    rw [h1] at e
    cases h2 : y'.slots[s.toNat]? with
    | none => rfl
    | some x => rw [h2] at e; cases e
  | some x =>
    rw [h1] at e hc
    cases h2 : y'.slots[s.toNat]? with
    | none => rfl
    | some x' =>
      rw [h2] at e
      have e : x'.coming = x.coming := Option.some.inj e
      show x'.coming = Option.none
      rw [e]
      exact hc

theorem Calm.setIn (y : Bay) (s : Int) (d : Dev) : Calm y (y.setIn s d) := by
  show (y.slots.modify s.toNat (fun x => { x with inn := some d })).map (·.coming) = y.slots.map (·.coming)
  apply List.ext_getElem?
  intro i
  rw [List.getElem?_map, List.getElem?_map, List.getElem?_modify]
  cases y.slots[i]? with
  | none => rfl
  | some x =>
    by_cases q : s.toNat = i
    · simp [q]
    · simp [q]

theorem Calm.start (y : Bay) (s : Int) (what : Nat) : Calm y (y.start s what) := by
  unfold Bay.start
  split
  · rfl
  split
  · rfl
  split
  · rfl
  split
  · rfl
  · exact Calm.setIn (y.counted what) s _

theorem Calm.write (y : Bay) (s at_ : Int) (x : List Nat) : Calm y (y.write s at_ x) := by
  unfold Bay.write
  split
  · exact Calm.setIn (y.counted 2) s _
  · exact Calm.start y s 2

theorem Calm.flush (y : Bay) (s : Int) : Calm y (y.flush s) := by
  unfold Bay.flush
  split
  · exact Calm.setIn (y.counted 3) s _
  · exact Calm.start y s 3

theorem Calm.wr (s : Int) (io : Wl.Io) (at_ : Int) (x : List Nat) : Calm io.1 (Wl.wr s io at_ x).1 := by
  unfold Wl.wr
  split
  · exact Calm.write _ _ _ _
  · rfl

theorem Calm.fl (s : Int) (io : Wl.Io) : Calm io.1 (Wl.fl s io).1 := by
  unfold Wl.fl
  split
  · exact Calm.flush _ _
  · rfl

theorem Calm.wrs (s : Int) : ∀ (ws : List (Nat × List Nat)) (io : Wl.Io), Calm io.1 (Wl.wrs s io ws).1
  | [], _ => rfl
  | w :: ws, io => (Calm.wr s io (w.1 : Int) w.2).trans (Calm.wrs s ws (Wl.wr s io (w.1 : Int) w.2))

theorem Calm.fmt (y : Bay) (s : Int) (n ep : Nat) : Calm y (Wl.fmtIo y s n ep).1 := ((Calm.wrs s _ (y, 0)).trans (Calm.wr s _ _ _)).trans (Calm.fl s _)

theorem Calm.pass (y : Bay) (J : Wl.Jn) (ep : Nat) : Calm y (Wl.passJ y J ep).bay := by
  unfold Wl.passJ
  split
  · rfl
  split
  · rfl
  split
  · rfl
  · rw [Wl.ends_bay]
    exact (Calm.wr J.slot (y, J.br) _ _).trans (Calm.fl J.slot _)

theorem Calm.call (y : Bay) (J : Wl.Jn) (a : WOpD) : Calm y (Wl.callJ y J a).bay := by
  unfold Wl.callJ
  split
  · unfold Wl.logJ
    split
    · rfl
    · rw [Wl.ends_bay]
      exact (Calm.wrs J.slot _ (y, J.br)).trans (Calm.fl J.slot _)
  split
  · unfold Wl.sealJ
    split
    · rfl
    split
    · rfl
    · rw [Wl.ends_bay]
      exact Calm.wr J.slot (y, J.br) _ _
  split
  · unfold Wl.syncJ
    split
    · rfl
    · rw [Wl.ends_bay]
      exact Calm.fl J.slot (y, J.br)
  split
  · exact Calm.pass y J _
  split
  · exact Calm.pass y J _
  · rfl

theorem bg_come {n : Nat} (n5 : 5 ≤ n) (n2 : n ≤ 2048) : NoCome (Wl.bgBay n) 0 ∧ NoCome (Wl.bgBay n) 1 ∧ (Wl.bgBay n).Up 1 (Dk.new (2 + n)) := by
  have e2 : Wl.twoBay n = ⟨[⟨some ⟨Dk.new (2 + n), none⟩, none, none⟩, ⟨some ⟨Dk.new (2 + n), none⟩, none, none⟩], false, none, 0, 0, 0⟩ := by
    have e : Bay.slotOf ((2 + n : Nat) : Int) = ⟨some ⟨Dk.new (2 + n), none⟩, none, none⟩ := by
      unfold Bay.slotOf
      rw [if_neg (show ¬ ((2 + n : Nat) : Int) = 0 by omega)]
      rfl
    unfold Wl.twoBay Bay.new
    rw [List.map_cons, List.map_cons, e]
    rfl
  obtain ⟨d', _, h2, _, _⟩ := Wl.fmt_up (s := 0) (d := Dk.new (2 + n)) (B := 3) (n := n) (ep := 1) (Wl.two_up n 0 (.inl rfl)) n5 n2 (by show 2 + n ≤ (List.replicate (2 + n) (List.replicate 128 0)).length; rw [List.length_replicate]; omega) (by decide) ⟨by decide, by decide⟩
  have c := Calm.fmt (Wl.twoBay n) 0 n 1
  have hu := Wl.two_up n 1 (.inr rfl)
  exact ⟨c.none (by unfold NoCome; rw [e2]; rfl), c.none (by unfold NoCome; rw [e2]; rfl), (h2.other 1 (by decide)).trans hu.dev, hu.bad, h2.up.dark, h2.up.trip⟩

theorem Wl.call_ok {y : Bay} {J : Wl.Jn} {d : Dk} {B : Nat} {a : WOpD} (h : Wl.Ok y J d B) (hb : ∀ p ∈ a.pts, By p.d) : (∃ d', Wl.Ok (Wl.callJ y J a).bay (Wl.callJ y J a).jn d' (B + 1)) ∧ (Wl.callJ y J a).jn.slot = J.slot ∧ (Wl.callJ y J a).jn.S = J.S := by
  unfold Wl.callJ
  split
  · have c := h.logCosts (e := scErr J.ep J.next a.pts) (l := a.pts.map pdOf) (fun q => (scErr_zero q hb).2.1)
    exact ⟨c.ok, c.slot, c.size⟩
  split
  · exact ⟨h.sealCosts.ok, h.sealCosts.slot, h.sealCosts.size⟩
  split
  · exact ⟨h.syncCosts.2.ok, h.syncCosts.2.slot, h.syncCosts.2.size⟩
  split
  · have c := h.passCosts J.ep (Nat.le_succ_of_le h.ep)
    exact ⟨c.ok, c.slot, c.size⟩
  split
  · have c := h.passCosts (J.ep + 1) (by have := h.ep; omega)
    exact ⟨c.ok, c.slot, c.size⟩
  · exact ⟨⟨d, h.more⟩, rfl, rfl⟩

/-- The same call of two journals that stand alike, on disks that are alike, in whatever bays. -/
theorem Wl.call_two {y1 y2 : Bay} {J : Wl.Jn} {d : Dk} {B : Nat} {a : WOpD} (h1 : Wl.Ok y1 J d B) (h2 : Wl.Ok y2 J d B) (hb : ∀ p ∈ a.pts, By p.d) :
    (Wl.callJ y1 J a).err = (Wl.callJ y2 J a).err ∧ (Wl.callJ y1 J a).jn = (Wl.callJ y2 J a).jn ∧ ∃ d', Wl.Ok (Wl.callJ y1 J a).bay (Wl.callJ y1 J a).jn d' (B + 1) ∧ Wl.Ok (Wl.callJ y2 J a).bay (Wl.callJ y1 J a).jn d' (B + 1) ∧ (Wl.callJ y1 J a).jn.slot = J.slot ∧ (Wl.callJ y1 J a).jn.S = J.S := by
  obtain ⟨e, J', d', hh⟩ := Wl.call_acts (J := J) (d := d) (B := B) (a := a) hb
  obtain ⟨a1, a2, _, _, _, a3⟩ := hh y1 h1
  obtain ⟨b1, b2, _, _, _, b3⟩ := hh y2 h2
  obtain ⟨⟨x1, k1⟩, s1, z1⟩ := Wl.call_ok h1 hb
  obtain ⟨⟨x2, k2⟩, _, _⟩ := Wl.call_ok h2 hb
  have u1 := k1.up
  have u2 := k2.up
  rw [s1] at u1
  have q1 : x1 = d' := by have := u1.dev.symm.trans a3.up.dev; simpa using this
  rw [b2, ← a2, s1] at u2
  have q2 : x2 = d' := by have := u2.dev.symm.trans b3.up.dev; simpa using this
  subst q1
  subst q2
  refine ⟨a1.trans b1.symm, a2.trans b2.symm, x2, k1, ?_, s1, z1⟩
  rw [a2, ← b2]
  exact k2

/-- What a disk has once the power has been away. -/
def cutIm (d : Dk) : List Nat := ((Dk.kept [] 0 d.cache).foldl Dk.lay d.last).flatten

theorem cut_there {y : Bay} {d : Dk} (h : y.Up 0 d) (hc : NoCome y 0) : (y.cut []).there 0 = 0 ∧ (y.cut []).image 0 = cutIm d := by
  obtain ⟨k, _⟩ := Wl.up_cut h hc []
  refine ⟨?_, ?_⟩
  · unfold Bay.there
    rw [k.is, k.dev, if_neg (by decide)]
    rfl
  · unfold Bay.image
    rw [k.dev]
    show Dk.image ({ d with last := (Dk.kept [] 0 d.cache).foldl Dk.lay d.last, cache := [] } : Dk) = _
    rw [Dk.image_ok (show ({ d with last := (Dk.kept [] 0 d.cache).foldl Dk.lay d.last, cache := [] } : Dk).bad = false from h.bad)]
    rfl

theorem wl_disk_len {d : Dk} (h : d.Fit) : d.last.flatten.length ≤ 1048576 := by
  have e : ∀ l : List (List Nat), (∀ s ∈ l, s.length = 128) → l.flatten.length = l.length * 128 := fun l => by
    induction l with
    | nil => intro _; rfl
    | cons x l ih =>
      intro hl
      rw [List.flatten_cons, List.length_append, ih (fun s hs => hl s (List.mem_cons_of_mem _ hs)), hl x List.mem_cons_self, List.length_cons]
      omega
  rw [e _ (fun s hs => (h.sec s hs).1)]
  have := h.hi
  omega

theorem wl_image_len {w : World} {b : Nat} {F : List Nat} {y : Bay} (h : (BayT b y F).P w) (s : Int) : (y.image s).length ≤ 1048576 := by
  have h1 : BayIn w b F y := h
  unfold Bay.image
  split
  · rename_i d hd
    obtain ⟨x, hx, hi⟩ : ∃ x ∈ y.slots, x.inn = some d := by
      unfold Bay.dev at hd
      split at hd
      · obtain ⟨x, hx, hd⟩ := Option.bind_eq_some_iff.1 hd
        exact ⟨x, List.mem_of_getElem? hx, hd⟩
      · cases hd
    have hf := (h1.fit.devs x hx d (.inl hi)).1
    unfold Dk.image
    split
    · simp
    · exact wl_disk_len hf
  · simp

end Go.Proofs.YtaggfbgbmiifaaaGreat

/-
  WalSlots' walk. By an AI agent.
-/
namespace Go.Proofs.YtaggfbgbmiifaaaGreat
open Go.RowKit Go.Maps Crc

namespace Wl

theorem callJ_low {y : Bay} {J : Jn} {a : WOpD} {L : Nat} (h : y.Low L) : (callJ y J a).bay.Low (L + 3 * a.weight) := by
  have hw : 1 + a.pts.length ≤ a.weight := by unfold WOpD.weight; omega
  unfold callJ
  split
  · have := logJ_low h J (scErr J.ep J.next a.pts) (a.pts.map pdOf)
    rw [List.length_map] at this
    exact this.mono (by omega)
  split
  · exact (sealJ_low h J).mono (by omega)
  split
  · exact (syncJ_low h J).mono (by omega)
  split
  · exact (passJ_low h J J.ep).mono (by omega)
  split
  · exact (passJ_low h J (J.ep + 1)).mono (by omega)
  · exact h.mono (by omega)

/-- A journal stands while the other's disk is worked on. -/
theorem Ok.beside {y y' : Bay} {J : Jn} {d d' : Dk} {B nr nw nf : Nat} {s : Int} (h : Ok y J d B) (k : y.Went y' s d' nr nw nf) (hs : J.slot ≠ s) : Ok y' J d B :=
  ⟨⟨(k.other J.slot hs).trans h.up.dev, h.up.bad, k.up.dark, k.up.trip⟩, h.size, h.lo, h.hi, h.tail, h.used, h.br, h.next, h.ep, h.com, h.cost⟩

theorem Ok.mono {y : Bay} {J : Jn} {d : Dk} {B C : Nat} (h : Ok y J d B) (k : B ≤ C) : Ok y J d C := ⟨h.up, h.size, h.lo, h.hi, h.tail, h.used, h.br, Nat.le_trans h.next k, Nat.le_trans h.ep k, h.com, h.cost⟩

end Wl

/-- How the three journals stand: two alike, on the first disks of two bays, and one on the other disk of the first bay. -/
structure SSt (es fs : List WOpD) (n j m : Nat) (yb yc : Bay) (J J1 : Wl.Jn) (d d1 : Dk) (L : Nat) : Prop where
  one : Wl.Ok yb J d (3 + j)
  two : Wl.Ok yc J d (3 + j)
  oth : Wl.Ok yb J1 d1 (9 + m)
  s0 : J.slot = 0
  s1 : J1.slot = 1
  z0 : J.S = n
  z1 : J1.S = n
  cb : NoCome yb 0
  cc : NoCome yc 0
  lb : yb.Low L
  lc : yc.Low L
  l : L ≤ 9000 + 3 * wopW es j + 3 * wopW fs m

section
variable {es fs : List WOpD} {n j m : Nat} {yb yc : Bay} {J J1 : Wl.Jn} {d d1 : Dk} {L : Nat} {a : WOpD}

theorem SSt.turn (h : SSt es fs n j m yb yc J J1 d d1 L) (ha : fs[m]? = some a) (hb : ∀ p ∈ a.pts, By p.d) : ∃ d1' L', SSt es fs n j (m + 1) (Wl.callJ yb J1 a).bay yc J (Wl.callJ yb J1 a).jn d d1' L' := by
  obtain ⟨e, J', d', hh⟩ := Wl.call_acts (J := J1) (d := d1) (B := 9 + m) (a := a) hb
  obtain ⟨_, _, _, _, _, k⟩ := hh yb h.oth
  obtain ⟨⟨d1', o⟩, s, z⟩ := Wl.call_ok h.oth hb
  refine ⟨d1', L + 3 * a.weight, h.one.beside k (by rw [h.s0, h.s1]; decide), h.two, o.mono (by omega), h.s0, s.trans h.s1, h.z0, z.trans h.z1, (Calm.call yb J1 a).none h.cb, h.cc, Wl.callJ_low h.lb, h.lc.mono (by omega), ?_⟩
  rw [wopW_succ ha]
  have := h.l
  omega

theorem SSt.idle (h : SSt es fs n j m yb yc J J1 d d1 L) (hm : fs.length ≤ m) : SSt es fs n j (m + 1) yb yc J J1 d d1 L := by
  refine ⟨h.one, h.two, h.oth.mono (by omega), h.s0, h.s1, h.z0, h.z1, h.cb, h.cc, h.lb, h.lc, ?_⟩
  have e : wopW fs (m + 1) = wopW fs m := by unfold wopW; rw [List.take_of_length_le (by omega), List.take_of_length_le hm]
  rw [e]
  exact h.l

theorem SSt.step (h : SSt es fs n j m yb yc J J1 d d1 L) (ha : es[j]? = some a) (hb : ∀ p ∈ a.pts, By p.d) :
    (Wl.callJ yb J a).err = (Wl.callJ yc J a).err ∧ (Wl.callJ yb J a).jn = (Wl.callJ yc J a).jn ∧ ∃ d' L', SSt es fs n (j + 1) m (Wl.callJ yb J a).bay (Wl.callJ yc J a).bay (Wl.callJ yb J a).jn J1 d' d1 L' := by
  obtain ⟨e1, e2, d', o1, o2, s, z⟩ := Wl.call_two h.one h.two hb
  obtain ⟨e, J', d'', hh⟩ := Wl.call_acts (J := J) (d := d) (B := 3 + j) (a := a) hb
  obtain ⟨_, _, _, _, _, k⟩ := hh yb h.one
  refine ⟨e1, e2, d', L + 3 * a.weight, o1.mono (by omega), o2.mono (by omega), h.oth.beside k (by rw [h.s0, h.s1]; decide), s.trans h.s0, h.s1, z.trans h.z0, h.z1, (Calm.call yb J a).none h.cb, (Calm.call yc J a).none h.cc, Wl.callJ_low h.lb, Wl.callJ_low h.lc, ?_⟩
  rw [wopW_succ ha]
  have := h.l
  omega

theorem SSt.bound (h : SSt es fs n j m yb yc J J1 d d1 L) (h1 : wopW es es.length ≤ 5000) (h2 : wopW fs fs.length ≤ 5000) : L ≤ 100000 := by
  have := h.l
  have := (wopW_le h1).2 j
  have := (wopW_le h2).2 m
  omega

theorem SSt.cut (h : SSt es fs n j m yb yc J J1 d d1 L) : (yb.cut []).there 0 = 0 ∧ (yc.cut []).there 0 = 0 ∧ (yb.cut []).image 0 = (yc.cut []).image 0 := by
  have u1 := h.one.up
  have u2 := h.two.up
  rw [h.s0] at u1 u2
  obtain ⟨a1, a2⟩ := cut_there u1 h.cb
  obtain ⟨b1, b2⟩ := cut_there u2 h.cc
  exact ⟨a1, b1, a2.trans b2.symm⟩

end

theorem wl_sl {w : World} {t : TypeId} {u : Value} {xs : List Nat} (h : (ownT t u ((ints xs).map (Value.int .u8))).P w) : Sl w u (ints xs) := Sl.owned h

/-- The other journal of the first bay. -/
def sjn (n : Nat) : Wl.Jn := Wl.begun 1 n ⟨9, 1, 0⟩ 0 1
def sbay (n : Nat) : Bay := (Wl.fmtIo (Wl.bgBay n) 1 n 9).1

theorem SSt.begin {es fs : List WOpD} {n : Nat} (n5 : 5 ≤ n) (n2 : n ≤ 2048) : (Wl.fmtIo (Wl.bgBay n) 1 n 9).2 = 0 ∧ ∃ d d1 L, SSt es fs n 0 0 (sbay n) (Wl.bgBay n) (Wl.bgJn n) (sjn n) d d1 L := by
  obtain ⟨_, d, ok⟩ := Wl.bg_up n5 n2
  obtain ⟨c0, c1, u1⟩ := bg_come n5 n2
  obtain ⟨d1, h1, h2, h3, _⟩ := Wl.fmt_up (s := 1) (d := Dk.new (2 + n)) (B := 9) (n := n) (ep := 9) u1 n5 n2 (by show 2 + n ≤ (List.replicate (2 + n) (List.replicate 128 0)).length; rw [List.length_replicate]; omega) (by decide) ⟨by decide, by decide⟩
  have low := Wl.fmtIo_low (Bay.new_low [((2 + n : Nat) : Int), ((2 + n : Nat) : Int)]) 0 n 1
  refine ⟨h1, d, d1, 9000, ok.beside h2 (by show (0 : Int) ≠ 1; decide), ok, h3, rfl, rfl, rfl, rfl, (Calm.fmt _ _ _ _).none c0, c0, (Wl.fmtIo_low low 1 n 9).mono (by omega), low.mono (by omega), by omega⟩

/-- The three of them in memory. -/
def RThr (w0 : World) (b W D R U D1 R1 c V D' R' : Nat) (J J1 J' : Wl.Jn) (yb yc : Bay) (w' : World) : Prop :=
  ∃ cv F cv1 cv' F', Side w0 w' (jts b W D R J cv yb F (devT D1 b J1.slot J1.br :: walT U D1 R1 J1 cv1 :: ringT R1 J1.S J1.t J1.u :: comT cv1 J1.commit :: jts c V D' R' J' cv' yc F' []))

section
variable {w0 w' : World} {b W D R U D1 R1 c V D' R' : Nat} {J J1 J' : Wl.Jn} {yb yc : Bay} {K : World → Prop}

theorem RThr.quiet {w'' : World} (h : RThr w0 b W D R U D1 R1 c V D' R' J J1 J' yb yc w') (q : Chg [] w' w'') : RThr w0 b W D R U D1 R1 c V D' R' J J1 J' yb yc w'' := by
  obtain ⟨cv, F, cv1, cv', F', H⟩ := h
  exact ⟨cv, F, cv1, cv', F', H.quiet q⟩

theorem RThr.chg (h : RThr w0 b W D R U D1 R1 c V D' R' J J1 J' yb yc w') : Chg [] w0 w' := by
  obtain ⟨cv, F, cv1, cv', F', H⟩ := h
  exact H.chg

theorem Side.mid {A B C D E F G H I : Thing} {ts : List Thing} (h : Side w0 w' (A :: B :: C :: D :: E :: F :: G :: H :: I :: ts)) : Side w0 w' (A :: F :: G :: H :: I :: B :: C :: D :: E :: ts) :=
  h.perm (List.Perm.cons _ (by
    show ([B, C, D, E] ++ ([F, G, H, I] ++ ts)).Perm ([F, G, H, I] ++ ([B, C, D, E] ++ ts))
    rw [← List.append_assoc, ← List.append_assoc]
    exact List.Perm.append_right _ List.perm_append_comm))

theorem Side.ahead {A B C D E F G H I : Thing} {ts us : List Thing} (h : Side w0 w' ([A, B, C, D, E, F, G, H, I] ++ (ts ++ us))) : Side w0 w' (ts ++ ([A, B, C, D, E, F, G, H, I] ++ us)) :=
  h.perm (by
    rw [← List.append_assoc, ← List.append_assoc]
    exact List.Perm.append_right _ List.perm_append_comm)

theorem Side.aback {A B C D E F G H I a b c d e : Thing} (h : Side w0 w' ([a, b, c, d, e] ++ [A, B, C, D, E, F, G, H, I])) : Side w0 w' ([A, B, C, D, E, F, G, H, I] ++ [a, b, c, d, e]) := h.perm List.perm_append_comm

theorem rthr_call (a : WOpD) (hK : ∀ w', RThr w0 b W D R U D1 R1 c V D' R' (Wl.callJ yb J a).jn J1 J' (Wl.callJ yb J a).bay yc w' → K w') (h : RThr w0 b W D R U D1 R1 c V D' R' J J1 J' yb yc w') (hf : J.Fit) (hs : I64 J.slot) (hl : yb.Low 999990000) (h2 : Pts w' a.ptsV a.pts) (hb : ∀ p ∈ a.pts, By p.d ∧ Cap p.v) (h3 : ∃ o n c, a.keepV = .slice o n c) :
    Calls Tryz.prog 38 #[.pointer (some ⟨W, 0, none⟩), .agg #[.int .i64 a.kind, .int .i64 a.num, a.ptsV, a.keepV]] w' fun e w'' => e = .returned (.int .u16 (Wl.callJ yb J a).err) ∧ Hid (K w'') ∧ Hid (RThr w0 b W D R U D1 R1 c V D' R' (Wl.callJ yb J a).jn J1 J' (Wl.callJ yb J a).bay yc w'') := by
  obtain ⟨cv, F, cv1, cv', F', H⟩ := h
  refine (calls_any H hf hs hl a h2 hb h3).mono ?_
  rintro e w'' ⟨h1, F2, cv2, h2⟩
  have h3 : RThr w0 b W D R U D1 R1 c V D' R' (Wl.callJ yb J a).jn J1 J' (Wl.callJ yb J a).bay yc w'' := ⟨cv2, F2, cv1, cv', F', h2.out⟩
  exact ⟨h1, hK _ h3, h3⟩

theorem rthr_other (a : WOpD) (h : RThr w0 b W D R U D1 R1 c V D' R' J J1 J' yb yc w') (hf : J1.Fit) (hs : I64 J1.slot) (hl : yb.Low 999990000) (h2 : Pts w' a.ptsV a.pts) (hb : ∀ p ∈ a.pts, By p.d ∧ Cap p.v) (h3 : ∃ o n c, a.keepV = .slice o n c) :
    Calls Tryz.prog 38 #[.pointer (some ⟨U, 0, none⟩), .agg #[.int .i64 a.kind, .int .i64 a.num, a.ptsV, a.keepV]] w' fun e w'' => e = .returned (.int .u16 (Wl.callJ yb J1 a).err) ∧ Hid (RThr w0 b W D R U D1 R1 c V D' R' J (Wl.callJ yb J1 a).jn J' (Wl.callJ yb J1 a).bay yc w'') := by
  obtain ⟨cv, F, cv1, cv', F', H⟩ := h
  have H2 : Side w0 w' (jts b U D1 R1 J1 cv1 yb F (devT D b J.slot J.br :: walT W D R J cv :: ringT R J.S J.t J.u :: comT cv J.commit :: jts c V D' R' J' cv' yc F' [])) := H.mid
  refine (calls_any H2 hf hs hl a h2 hb h3).mono ?_
  rintro e w'' ⟨h1, F2, cv2, h2⟩
  exact ⟨h1, cv, F2, cv2, cv', F', h2.out.mid⟩

theorem rthr_view (h : RThr w0 b W D R U D1 R1 c V D' R' J J1 J' yb yc w') : ∃ cv' F' ts, Side w0 w' (jts c V D' R' J' cv' yc F' ts) ∧ ∀ w'' J2 cv2 y2 F2, Side w0 w'' (jts c V D' R' J2 cv2 y2 F2 ts) → RThr w0 b W D R U D1 R1 c V D' R' J J1 J2 yb y2 w'' := by
  obtain ⟨cv, F, cv1, cv', F', H⟩ := h
  have H2 : Side w0 w' ([BayT c yc F', devT D' c J'.slot J'.br, walT V D' R' J' cv', ringT R' J'.S J'.t J'.u, comT cv' J'.commit] ++ ([BayT b yb F, devT D b J.slot J.br, walT W D R J cv, ringT R J.S J.t J.u, comT cv J.commit, devT D1 b J1.slot J1.br, walT U D1 R1 J1 cv1, ringT R1 J1.S J1.t J1.u, comT cv1 J1.commit] ++ [])) := Side.ahead (us := []) H
  refine ⟨cv', F', _, H2, fun w'' J2 cv2 y2 F2 h => ⟨cv, F, cv1, cv2, F2, ?_⟩⟩
  exact Side.aback h

theorem rthr_call2 (a : WOpD) (hK : ∀ w', RThr w0 b W D R U D1 R1 c V D' R' J J1 (Wl.callJ yc J' a).jn yb (Wl.callJ yc J' a).bay w' → K w') (h : RThr w0 b W D R U D1 R1 c V D' R' J J1 J' yb yc w') (hf : J'.Fit) (hs : I64 J'.slot) (hl : yc.Low 999990000) (h2 : Pts w' a.ptsV a.pts) (hb : ∀ p ∈ a.pts, By p.d ∧ Cap p.v) (h3 : ∃ o n c, a.keepV = .slice o n c) :
    Calls Tryz.prog 38 #[.pointer (some ⟨V, 0, none⟩), .agg #[.int .i64 a.kind, .int .i64 a.num, a.ptsV, a.keepV]] w' fun e w'' => e = .returned (.int .u16 (Wl.callJ yc J' a).err) ∧ Hid (K w'') ∧ Hid (RThr w0 b W D R U D1 R1 c V D' R' J J1 (Wl.callJ yc J' a).jn yb (Wl.callJ yc J' a).bay w'') := by
  obtain ⟨cv', F', ts, H, back⟩ := rthr_view h
  refine (calls_any H hf hs hl a h2 hb h3).mono ?_
  rintro e w'' ⟨h1, F2, cv2, h2⟩
  have h3 := back _ _ _ _ _ h2.out
  exact ⟨h1, hK _ h3, h3⟩

theorem rthr_still (hK : ∀ w', RThr w0 b W D R U D1 R1 c V D' R' J J1 J' yb yc w' → K w') (h : RThr w0 b W D R U D1 R1 c V D' R' J J1 J' yb yc w') {fn : Nat} {args : Array Value} {v : Value} (k : Calls Tryz.prog fn args w' (Still w' v)) :
    Calls Tryz.prog fn args w' fun e w'' => e = .returned v ∧ Hid (K w'') ∧ Hid (RThr w0 b W D R U D1 R1 c V D' R' J J1 J' yb yc w'') := by
  refine k.mono ?_
  rintro e w'' ⟨h1, q, rfl⟩
  have h2 := h.quiet ((Chg.refl [] w').drewN q)
  exact ⟨h1, hK _ h2, h2⟩

/-- What is asked of both, of the first bay's and of the second's. -/
theorem rthr_asks (h : RThr w0 b W D R U D1 R1 c V D' R' J J1 J' yb yc w') (f1 : J.Fit) (f2 : J'.Fit) :
    Calls Tryz.prog 35 #[.pointer (some ⟨W, 0, none⟩)] w' (Still w' (.int .i64 (J.u : Int))) ∧ Calls Tryz.prog 35 #[.pointer (some ⟨V, 0, none⟩)] w' (Still w' (.int .i64 (J'.u : Int))) ∧
    Calls Tryz.prog 43 #[.pointer (some ⟨W, 0, none⟩)] w' (Still w' (.int .u64 (J.next : Int))) ∧ Calls Tryz.prog 43 #[.pointer (some ⟨V, 0, none⟩)] w' (Still w' (.int .u64 (J'.next : Int))) ∧
    Calls Tryz.prog 29 #[.pointer (some ⟨W, 0, none⟩)] w' (Still w' (.bool J.sure)) ∧ Calls Tryz.prog 29 #[.pointer (some ⟨V, 0, none⟩)] w' (Still w' (.bool J'.sure)) := by
  have h0 := h
  obtain ⟨cv, F, cv1, cv', F', H⟩ := h0
  obtain ⟨cv2, F2, ts, G, _⟩ := rthr_view h
  exact ⟨wused_any (H.get 2 rfl) (H.get 3 rfl) f1.rg, wused_any (G.get 2 rfl) (G.get 3 rfl) f2.rg, wnext_any (H.get 2 rfl), wnext_any (G.get 2 rfl), wsure_any (H.get 2 rfl), wsure_any (G.get 2 rfl)⟩

end

set_option maxHeartbeats 4000000 in
set_option maxRecDepth 10000000 in
theorem wslots_any (w : World) (ring : Int) (hr : I64 ring) (v : Value) (es : List WOpD) (hv : WOps w v es) (v2 : Value) (fs : List WOpD) (hv2 : WOps w v2 fs) : Calls Tryz.prog 11 #[.int .i64 ring, v, v2] w fun e w' => e = .returned (.bool true) ∧ Chg [] w w' := by
  have MU := Lib.hid (wmuch_any v es w hv)
  have MU2 : Hid (∀ q, Calls Tryz.prog 12 #[v2] (w.drewN q) (WMuch (w.drewN q) fs)) := fun q => wmuch_any v2 fs _ (hv2.chg ((Chg.refl [] w).drewN q))
  have HVS : Hid (∀ w', Chg [] w w' → WOps w' v es) := fun w' c => hv.chg c
  have HVS2 : Hid (∀ w', Chg [] w w' → WOps w' v2 fs) := fun w' c => hv2.chg c
  have KN : Hid (∀ w', Calls Tryz.prog 14 #[] w' fun e w'' => e = .returned (.bool true) ∧ Hid (Chg [] w' w'')) := wknown_any
  obtain ⟨vo, vc, rfl⟩ := hv.slice
  obtain ⟨po, pc, rfl⟩ := hv2.slice
  clear hv hv2
  go_enter Tryz.func11, Tryz.ntmps11
  go_wp2_with fail
  refine MU.out.mono ?_
  rintro e w1 ⟨mb, rfl, hsm, q, rfl⟩
  replace hsm := Lib.hid hsm
  clear MU
  cases mb with
  | true =>
    go_wp2_with fail
    go_ret
    exact ⟨rfl, (Chg.refl [] w).drewN q⟩
  | false =>
  have HW : Hid (wopW es es.length ≤ 5000) := hsm.out rfl
  clear hsm
  go_wp2_with fail
  refine (MU2.out q).mono ?_
  rintro e w3 ⟨mb, rfl, hsm, q3, rfl⟩
  replace hsm := Lib.hid hsm
  clear MU2
  cases mb with
  | true =>
    go_wp2_with fail
    go_ret
    exact ⟨rfl, (Chg.refl [] w).drewN _⟩
  | false =>
  have HW2 : Hid (wopW fs fs.length ≤ 5000) := hsm.out rfl
  clear hsm
  obtain ⟨w4, hw4⟩ : ∃ w4, w4 = (w.drewN q).drewN q3 := ⟨_, rfl⟩
  have CW : Hid (Chg [] w w4) := by rw [hw4]; exact ((Chg.refl [] w).drewN q).drewN q3
  rw [← hw4]
  clear hw4
  by_cases hin : 5 ≤ ring ∧ ring ≤ 2048
  case neg =>
    have BN := Lib.hid (begun_no ring hin w4)
    have K1 := Lib.hid (KN.out w4)
    clear KN HVS HVS2 HW HW2
    by_cases h1 : ring < 5
    · clear hin
      go_wp2_with (first
        | (go_at_call 44; refine BN.out.mono ?_; rintro e w3 ⟨rfl, rfl⟩)
        | (go_at_call 14; refine K1.out.mono ?_; rintro e w3 ⟨rfl, C3⟩; clear K1 BN))
      go_ret
      exact ⟨rfl, CW.out.trans C3.out⟩
    · have h2 : 2048 < ring := by omega
      clear hin
      go_wp2_with (first
        | (go_at_call 44; refine BN.out.mono ?_; rintro e w3 ⟨rfl, rfl⟩)
        | (go_at_call 14; refine K1.out.mono ?_; rintro e w3 ⟨rfl, C3⟩; clear K1 BN))
      go_ret
      exact ⟨rfl, CW.out.trans C3.out⟩
  case pos =>
  obtain ⟨n, rfl⟩ : ∃ n : Nat, ring = n := ⟨ring.toNat, by omega⟩
  have n5 : 5 ≤ n := by omega
  have n2 : n ≤ 2048 := by omega
  have BG := Lib.hid (begun_ok (Side.nil (Chg.refl [] w4)) n5 n2)
  have BGF : Hid (∀ w' ts, Side w4 w' ts → Calls Tryz.prog 44 #[.int .i64 (n : Int)] w' (BegunW w4 n ts)) := fun w' ts h => begun_ok h n5 n2
  have S0 := Lib.hid (SSt.begin (es := es) (fs := fs) n5 n2)
  have FMF : Hid (∀ w' b F ts, Side w4 w' (BayT b (Wl.bgBay n) F :: ts) → Calls Tryz.prog 15 #[.pointer (some ⟨b, 0, none⟩), .int .i64 1, .int .i64 (n : Int), .int .u64 9] w' (Fmtd w4 b (Wl.bgBay n) 1 (n : Int) 9 ts)) := fun w' b F ts h => wformat_any h 1 (n : Int) ⟨by decide, by decide⟩ ⟨by omega, by omega⟩ 9 (by decide) ((Wl.fmtIo_low (Bay.new_low _) 0 n 1).mono (by omega))
  clear hin hr
  go_wp2_with (first
    | (go_at_call 44; refine BG.out.mono ?_; rintro e w5 ⟨b, W, D, R, F, rfl, H5⟩; clear BG; have BG2 := Lib.hid (BGF.out _ _ H5.out); clear BGF)
    | (go_at_call 44; refine BG2.out.mono ?_; rintro e w6 ⟨c, V, D', R', F', rfl, H6⟩; clear BG2 H5; have K1 := Lib.hid (KN.out w6); clear KN)
    | (go_at_call 14; refine K1.out.mono ?_; rintro e w7 ⟨rfl, C7⟩; clear K1; have H7 := Lib.hid (H6.out.quiet C7.out).jswap; have FM := Lib.hid (FMF.out _ _ _ _ H7.out); clear H6 C7 FMF))
  refine FM.out.mono ?_
  rintro e w8 (⟨hno, _⟩ | ⟨_, k, hk, _, _, ⟨hno, _⟩ | ⟨_, U, D1, R1, F8, rfl, H8⟩⟩)
  · exact absurd ⟨by decide, by omega, by omega⟩ hno
  · obtain rfl : n = k := by omega
    exact absurd S0.out.1 hno
  obtain rfl : n = k := by omega
  have T8 : Hid (RThr w4 b W D R U D1 R1 c V D' R' (Wl.bgJn n) (sjn n) (Wl.bgJn n) (sbay n) (Wl.bgBay n) w8) := ⟨_, _, _, _, _, H8.out.mid⟩
  clear FM H7 H8
  obtain ⟨N, hN⟩ : ∃ N, N = es.length := ⟨_, rfl⟩
  obtain ⟨M, hM⟩ : ∃ M, M = fs.length := ⟨_, rfl⟩
  have HN := Lib.hid hN
  have HM := Lib.hid hM
  have HVN : Hid (∀ w', Chg [] w w' → WOps w' (.slice vo N vc) es) := fun w' c => by rw [hN]; exact HVS.out w' c
  have HVM : Hid (∀ w', Chg [] w w' → WOps w' (.slice po M pc) fs) := fun w' c => by rw [hM]; exact HVS2.out w' c
  have HNW : Hid (N ≤ 5000) := by rw [hN]; exact (wopW_le HW.out).1
  rw [← hN, ← hM]
  clear HVS HVS2 hN hM
  have hl0 : (0 : Int) ≤ N := Int.natCast_nonneg _
  have H0 : Hid (∃ yb yc J J1 d d1 L, SSt es fs n 0 0 yb yc J J1 d d1 L ∧ RThr w4 b W D R U D1 R1 c V D' R' J J1 J yb yc w8) := by
    obtain ⟨d, d1, L, s⟩ := S0.out.2
    exact ⟨_, _, _, _, d, d1, L, s, T8.out⟩
  clear S0 T8
  go_wp2_with fail
  go_loopw [13] (fun i wr => ∃ j : Nat, j ≤ N ∧ i = .int .i64 j ∧ Hid (∃ yb yc J J1 d d1 L, SSt es fs n j j yb yc J J1 d d1 L ∧ RThr w4 b W D R U D1 R1 c V D' R' J J1 J yb yc wr)) (fun i _ => N - (intOf i).toNat)
  case atStart => exact ⟨0, Nat.zero_le _, rfl, H0⟩
  case round =>
    obtain ⟨j, hj, rfl, Hj⟩ := hrel
    clear H0
    have hj0 : (0 : Int) ≤ j := Int.natCast_nonneg _
    obtain ⟨yb, yc, J, J1, d, d1, L, ST, T0⟩ := Hj.out
    replace ST := Lib.hid ST
    replace T0 := Lib.hid T0
    clear Hj
    by_cases hlt : j < N
    · have hj1 : (j : Int) < N := by omega
      go_upto_if 65 with fail
      go_cut [65] from 66 to 71 (fun _ wx => Hid (∃ yb2 J2 d2 L2, SSt es fs n j (j + 1) yb2 yc J J2 d d2 L2 ∧ RThr w4 b W D R U D1 R1 c V D' R' J J2 J yb2 yc wx))
      case first =>
        clear HVN
        by_cases hkm : j < M
        · have hk1 : (j : Int) < M := by omega
          obtain ⟨a, ha⟩ : ∃ a, fs[j]? = some a := ⟨_, List.getElem?_eq_getElem (by have := HM.out; omega)⟩
          obtain ⟨bl, o, rfl, hbl, RI⟩ := (HVM.out _ (CW.out.trans T0.out.chg)).at ha
          obtain ⟨x2, y2, e2⟩ := RI.s2.slice
          obtain ⟨x3, y3, e3⟩ := RI.s3.slice
          rw [List.length_map] at e3
          have c0 := RI.c0
          have c1 := RI.c1
          have c2 := RI.c2
          have c3 := RI.c3
          rw [e2] at c2
          rw [e3] at c3
          have HPB : ∀ p ∈ a.pts, By p.d ∧ Cap p.v := fun p hp => ⟨(RI.y2 p hp).1, (RI.y2 p hp).2⟩
          have CC := rthr_other a T0.out (ST.out.oth.fit (by have := HNW.out; omega)) (by rw [ST.out.s1]; exact ⟨by decide, by decide⟩) (ST.out.lb.mono (by have := ST.out.bound HW.out HW2.out; omega)) RI.s2 HPB ⟨_, _, _, e3⟩
          rw [e2, e3] at CC
          replace CC := Lib.hid CC
          obtain ⟨d2, L2, S2⟩ := ST.out.turn ha (fun p hp => (HPB p hp).1)
          replace S2 := Lib.hid S2
          obtain ⟨OUT, hOUT⟩ : ∃ OUT, OUT = Wl.callJ yb J1 a := ⟨_, rfl⟩
          rw [← hOUT] at CC S2
          clear RI e2 e3 hbl HPB HVM HM hOUT
          go_wp2_with (go_at_call 38; refine CC.out.mono ?_; rintro e w9 ⟨rfl, T9⟩; clear CC c0 c1 c2 c3)
          go_meet
          exact ⟨_, _, _, _, S2.out, T9.out⟩
        · have hk1 : ¬ (j : Int) < M := by omega
          have S2 := Lib.hid (ST.out.idle (by have := HM.out; omega))
          clear HVM HM
          go_wp2_with fail
          go_meet
          exact ⟨_, _, _, _, S2.out, T0.out⟩
      case rest =>
        obtain ⟨yb2, J2, d2, L2, S2, T2⟩ := hcut
        replace S2 := Lib.hid S2
        replace T2 := Lib.hid T2
        clear ST T0 HVM HM
        obtain ⟨a, ha⟩ : ∃ a, es[j]? = some a := ⟨_, List.getElem?_eq_getElem (by have := HN.out; omega)⟩
        obtain ⟨bl, o, rfl, hbl, RI⟩ := (HVN.out _ (CW.out.trans T2.out.chg)).at ha
        have RIF : Hid (∀ w', Chg [] w w' → WOpIn w' bl (o + j * 4) a) := fun w' c => by
          obtain ⟨bl2, o2, e2, _, r⟩ := (HVN.out _ c).at ha
          obtain ⟨rfl, rfl⟩ : bl = bl2 ∧ o = o2 := by simpa using e2
          exact r
        obtain ⟨x2, y2, e2⟩ := RI.s2.slice
        obtain ⟨x3, y3, e3⟩ := RI.s3.slice
        rw [List.length_map] at e3
        have HPB : Hid (∀ p ∈ a.pts, By p.d ∧ Cap p.v) := fun p hp => ⟨(RI.y2 p hp).1, (RI.y2 p hp).2⟩
        obtain ⟨q1, q2, d3, L3, S3⟩ := S2.out.step ha (fun p hp => (HPB.out p hp).1)
        have FIT := Lib.hid (S2.out.one.fit (by have := HNW.out; omega))
        have FIT3 := Lib.hid (S3.one.fit (by have := HNW.out; omega))
        replace S3 := Lib.hid S3
        have LOWB := Lib.hid (S2.out.lb.mono (show L2 ≤ 999990000 by have := S2.out.bound HW.out HW2.out; omega))
        have LOWC := Lib.hid (S2.out.lc.mono (show L2 ≤ 999990000 by have := S2.out.bound HW.out HW2.out; omega))
        have I0 : Hid (I64 J.slot) := by rw [S2.out.s0]; exact ⟨by decide, by decide⟩
        obtain ⟨K, hK⟩ : ∃ K : World → Prop, K = fun w' => (w'.cell? ⟨bl, o + j * 4, none⟩ = some (.int .i64 a.kind) ∧ w'.cell? ⟨bl, o + j * 4 + 1, none⟩ = some (.int .i64 a.num) ∧ w'.cell? ⟨bl, o + j * 4 + 2, none⟩ = some (.slice x2 a.pts.length y2) ∧ w'.cell? ⟨bl, o + j * 4 + 3, none⟩ = some (.slice x3 a.keep.length y3)) := ⟨_, rfl⟩
        have KS : Hid (∀ w', K w' → (w'.cell? ⟨bl, o + j * 4, none⟩ = some (.int .i64 a.kind) ∧ w'.cell? ⟨bl, o + j * 4 + 1, none⟩ = some (.int .i64 a.num) ∧ w'.cell? ⟨bl, o + j * 4 + 2, none⟩ = some (.slice x2 a.pts.length y2) ∧ w'.cell? ⟨bl, o + j * 4 + 3, none⟩ = some (.slice x3 a.keep.length y3))) := fun w' h => by rw [hK] at h; exact h
        have KC : ∀ w', Chg [] w4 w' → K w' := fun w' c => by
          have r := RIF.out w' (CW.out.trans c)
          rw [hK]
          exact ⟨r.c0, r.c1, by rw [← e2]; exact r.c2, by rw [← e3]; exact r.c3⟩
        obtain ⟨OB, hOB⟩ : ∃ OB, OB = Wl.callJ yb2 J a := ⟨_, rfl⟩
        obtain ⟨OC, hOC⟩ : ∃ OC, OC = Wl.callJ yc J a := ⟨_, rfl⟩
        obtain ⟨TA, hTA⟩ : ∃ TA : World → Prop, TA = RThr w4 b W D R U D1 R1 c V D' R' J J2 J yb2 yc := ⟨_, rfl⟩
        obtain ⟨TB, hTB⟩ : ∃ TB : World → Prop, TB = RThr w4 b W D R U D1 R1 c V D' R' OB.jn J2 J OB.bay yc := ⟨_, rfl⟩
        obtain ⟨TC, hTC⟩ : ∃ TC : World → Prop, TC = RThr w4 b W D R U D1 R1 c V D' R' OB.jn J2 OB.jn OB.bay OC.bay := ⟨_, rfl⟩
        rw [← hOB, ← hOC] at q1 q2 S3
        rw [← hOB] at FIT3
        have CCA : Hid (∀ w', TA w' → Calls Tryz.prog 38 #[.pointer (some ⟨W, 0, none⟩), .agg #[.int .i64 a.kind, .int .i64 a.num, .slice x2 a.pts.length y2, .slice x3 a.keep.length y3]] w' fun e w'' => e = .returned (.int .u16 OB.err) ∧ Hid (K w'') ∧ Hid (TB w'')) := fun w' h => by
          rw [hTA] at h
          have m := rthr_call (K := K) a (fun w'' h2 => KC _ h2.chg) h FIT.out I0.out LOWB.out (RIF.out _ (CW.out.trans h.chg)).s2 HPB.out ⟨_, _, _, e3⟩
          rw [e2, e3, ← hOB, ← hTB] at m
          exact m
        have CCB : Hid (∀ w', TB w' → Calls Tryz.prog 38 #[.pointer (some ⟨V, 0, none⟩), .agg #[.int .i64 a.kind, .int .i64 a.num, .slice x2 a.pts.length y2, .slice x3 a.keep.length y3]] w' fun e w'' => e = .returned (.int .u16 OB.err) ∧ Hid (K w'') ∧ Hid (TC w'')) := fun w' h => by
          rw [hTB] at h
          have m := rthr_call2 (K := K) a (fun w'' h2 => KC _ h2.chg) h FIT.out I0.out LOWC.out (RIF.out _ (CW.out.trans h.chg)).s2 HPB.out ⟨_, _, _, e3⟩
          rw [e2, e3, ← hOC, ← q1, ← q2, ← hTC] at m
          exact m
        obtain ⟨u, hu⟩ : ∃ u : Int, u = (OB.jn.u : Int) := ⟨_, rfl⟩
        obtain ⟨x, hx⟩ : ∃ x : Int, x = (OB.jn.next : Int) := ⟨_, rfl⟩
        obtain ⟨sr, hsr⟩ : ∃ sr : Bool, sr = OB.jn.sure := ⟨_, rfl⟩
        have ASK : Hid (∀ w', TC w' →
            Calls Tryz.prog 35 #[.pointer (some ⟨W, 0, none⟩)] w' (fun e w'' => e = .returned (.int .i64 u) ∧ Hid (K w'') ∧ Hid (TC w'')) ∧ Calls Tryz.prog 35 #[.pointer (some ⟨V, 0, none⟩)] w' (fun e w'' => e = .returned (.int .i64 u) ∧ Hid (K w'') ∧ Hid (TC w'')) ∧
            Calls Tryz.prog 43 #[.pointer (some ⟨W, 0, none⟩)] w' (fun e w'' => e = .returned (.int .u64 x) ∧ Hid (K w'') ∧ Hid (TC w'')) ∧ Calls Tryz.prog 43 #[.pointer (some ⟨V, 0, none⟩)] w' (fun e w'' => e = .returned (.int .u64 x) ∧ Hid (K w'') ∧ Hid (TC w'')) ∧
            Calls Tryz.prog 29 #[.pointer (some ⟨W, 0, none⟩)] w' (fun e w'' => e = .returned (.bool sr) ∧ Hid (K w'') ∧ Hid (TC w'')) ∧ Calls Tryz.prog 29 #[.pointer (some ⟨V, 0, none⟩)] w' (fun e w'' => e = .returned (.bool sr) ∧ Hid (K w'') ∧ Hid (TC w''))) := fun w' h => by
          rw [hTC] at h ⊢
          rw [hu, hx, hsr]
          obtain ⟨a1, a2, a3, a4, a5, a6⟩ := rthr_asks h FIT3.out FIT3.out
          have kc : ∀ w'', RThr w4 b W D R U D1 R1 c V D' R' OB.jn J2 OB.jn OB.bay OC.bay w'' → K w'' := fun w'' h2 => KC _ h2.chg
          exact ⟨rthr_still kc h a1, rthr_still kc h a2, rthr_still kc h a3, rthr_still kc h a4, rthr_still kc h a5, rthr_still kc h a6⟩
        have TAD : Hid (∀ m, TA (wc.drewN m).drew) := fun m => by rw [hTA]; exact (T2.out.quiet ((Chg.refl [] _).drewN m)).quiet ((Chg.refl [] _).drewN 1)
        have TA1 : Hid (TA wc.drew) := by rw [hTA]; exact T2.out.quiet ((Chg.refl [] _).drewN 1)
        have KA1 : Hid (K wc.drew) := KC _ (T2.out.chg.trans ((Chg.refl [] _).drewN 1))
        have END : Hid (∀ w', TC w' → ∃ yb yc J J1 d d1 L, SSt es fs n (j + 1) (j + 1) yb yc J J1 d d1 L ∧ RThr w4 b W D R U D1 R1 c V D' R' J J1 J yb yc w') := fun w' h => by
          rw [hTC] at h
          exact ⟨_, _, _, _, _, _, _, S3.out, h⟩
        have MEAS : Hid (N - (intOf (.int .i64 ((j : Int) + 1))).toNat < N - (intOf (.int .i64 (j : Int))).toNat) := meas_next hlt
        obtain ⟨wa, wb⟩ := sc_wrap (z := (j : Int) + 1) (by omega) (by have := HNW.out; omega)
        clear hTA hTB hTC hu hx hsr hOB hOC q1 q2 hK KC RI RIF HVN HN e2 e3 hbl HPB FIT FIT3 LOWB LOWC I0 S3 S2 T2 ha
        generalize OB.err = er at *
        go_upto_region 17 with fail
        go_region_held3 (fun w' : World => (w'.cell? ⟨bl, o + j * 4, none⟩ = some (.int .i64 a.kind) ∧ w'.cell? ⟨bl, o + j * 4 + 1, none⟩ = some (.int .i64 a.num) ∧ w'.cell? ⟨bl, o + j * 4 + 2, none⟩ = some (.slice x2 a.pts.length y2) ∧ w'.cell? ⟨bl, o + j * 4 + 3, none⟩ = some (.slice x3 a.keep.length y3))) (first | exact KS.out _ K9.out | exact KS.out _ K8.out | exact KS.out _ K7.out | exact KS.out _ K6.out | exact KS.out _ K5.out | exact KS.out _ K4.out | exact KS.out _ K3.out | exact KS.out _ K2.out | exact KS.out _ KA1.out) (first
          | (go_at_call 29; refine (ASK.out _ T8.out).2.2.2.2.2.mono ?_; rintro e z9 ⟨rfl, K9, T9⟩)
          | (go_at_call 29; refine (ASK.out _ T7.out).2.2.2.2.1.mono ?_; rintro e z8 ⟨rfl, K8, T8⟩)
          | (go_at_call 43; refine (ASK.out _ T6.out).2.2.2.1.mono ?_; rintro e z7 ⟨rfl, K7, T7⟩)
          | (go_at_call 43; refine (ASK.out _ T5.out).2.2.1.mono ?_; rintro e z6 ⟨rfl, K6, T6⟩)
          | (go_at_call 35; refine (ASK.out _ T4.out).2.1.mono ?_; rintro e z5 ⟨rfl, K5, T5⟩)
          | (go_at_call 35; refine (ASK.out _ T3.out).1.mono ?_; rintro e z4 ⟨rfl, K4, T4⟩)
          | (go_at_call 38; refine (CCB.out _ T2.out).mono ?_; rintro e z3 ⟨rfl, K3, T3⟩)
          | (go_at_call 38; refine (CCA.out _ TA1.out).mono ?_; rintro e z2 ⟨rfl, K2, T2⟩))
        all_goals go_wp2_with fail
        all_goals exact ⟨⟨j + 1, hlt, by first | rfl | (rw [Int.natCast_add]; rfl) | go_num, END.out _ T9.out⟩, MEAS.out⟩
    · have hj1 : ¬ (j : Int) < N := by omega
      obtain ⟨t1, t2, im⟩ := ST.out.cut
      obtain ⟨Im, hIm⟩ : ∃ Im, Im = (yb.cut []).image 0 := ⟨_, rfl⟩
      rw [← hIm] at im
      replace t1 := Lib.hid t1
      replace t2 := Lib.hid t2
      replace im := Lib.hid im
      replace hIm := Lib.hid hIm
      obtain ⟨cv, F9, cv1, cv', F9', H⟩ := T0.out
      have H : Side w4 wr [BayT b yb F9, devT D b J.slot J.br, walT W D R J cv, ringT R J.S J.t J.u, comT cv J.commit, devT D1 b J1.slot J1.br, walT U D1 R1 J1 cv1, ringT R1 J1.S J1.t J1.u, comT cv1 J1.commit, BayT c yc F9', devT D' c J.slot J.br, walT V D' R' J cv', ringT R' J.S J.t J.u, comT cv' J.commit] := H
      have CUT1 := Lib.hid (bcut_any b F9 yb wr (H.get 0 rfl) (.slice none 0 0) [] (.inl ⟨rfl, _, _, rfl⟩) (fun h => absurd rfl h) (fun d hd => by cases hd))
      replace H := Lib.hid H
      clear HVN HVM HN HM ST T0
      go_wp2_with fail
      refine CUT1.out.mono ?_
      rintro e wd ⟨rfl, T⟩
      obtain ⟨Fa, Ha⟩ := H.out.act 0 rfl T.out
      have Ha : Side w4 wd [BayT b (yb.cut []) Fa, devT D b J.slot J.br, walT W D R J cv, ringT R J.S J.t J.u, comT cv J.commit, devT D1 b J1.slot J1.br, walT U D1 R1 J1 cv1, ringT R1 J1.S J1.t J1.u, comT cv1 J1.commit, BayT c yc F9', devT D' c J.slot J.br, walT V D' R' J cv', ringT R' J.S J.t J.u, comT cv' J.commit] := Ha
      have CUT2 := Lib.hid (bcut_any c F9' yc wd (Ha.get 9 rfl) (.slice none 0 0) [] (.inl ⟨rfl, _, _, rfl⟩) (fun h => absurd rfl h) (fun d hd => by cases hd))
      replace Ha := Lib.hid Ha
      clear CUT1 H T
      go_wp2_with fail
      refine CUT2.out.mono ?_
      rintro e we ⟨rfl, T⟩
      obtain ⟨Fb, Hb⟩ := Ha.out.act 9 rfl T.out
      have Hb : Side w4 we [BayT b (yb.cut []) Fa, devT D b J.slot J.br, walT W D R J cv, ringT R J.S J.t J.u, comT cv J.commit, devT D1 b J1.slot J1.br, walT U D1 R1 J1 cv1, ringT R1 J1.S J1.t J1.u, comT cv1 J1.commit, BayT c (yc.cut []) Fb, devT D' c J.slot J.br, walT V D' R' J cv', ringT R' J.S J.t J.u, comT cv' J.commit] := Hb
      have IM1 := bimage_any b Fa _ we (Hb.get 0 rfl) 0 ⟨by decide, by decide⟩
      rw [t1.out, ← hIm.out] at IM1
      have IL : Hid (Im.length ≤ 1048576) := by rw [hIm.out]; exact wl_image_len (Hb.get 0 rfl) 0
      replace IM1 := Lib.hid IM1
      replace Hb := Lib.hid Hb
      clear CUT2 Ha T
      go_wp2_with fail
      refine IM1.out.mono ?_
      rintro e wf ⟨ta, ua, rfl, O, C⟩
      obtain ⟨ao, ac, rfl⟩ := owns_slice O.out
      have Hc := Hb.out.own O.out C.out
      have IM2 := bimage_any c Fb _ wf (Hc.get 10 rfl) 0 ⟨by decide, by decide⟩
      rw [t2.out, ← im.out] at IM2
      replace IM2 := Lib.hid IM2
      replace Hc := Lib.hid Hc
      clear IM1 Hb O C
      go_wp2_with fail
      refine IM2.out.mono ?_
      rintro e wg ⟨tb, ub', rfl, O, C⟩
      obtain ⟨bo, bc, rfl⟩ := owns_slice O.out
      have Hd := Hc.out.own O.out C.out
      have SM := Lib.hid (same_true _ _ (ints Im) wg (wl_sl (Hd.get 1 rfl)) (wl_sl (Hd.get 0 rfl)) (by have := IL.out; rw [ints_length]; omega))
      have CE := Lib.hid (CW.out.trans Hd.chg)
      clear IM2 Hc Hd O C
      go_wp2_with (go_at_call 47; refine SM.out.mono ?_; rintro e wh ⟨rfl, qh, rfl⟩)
      go_ret
      exact ⟨rfl, CE.out.drewN qh⟩

end Go.Proofs.YtaggfbgbmiifaaaGreat
