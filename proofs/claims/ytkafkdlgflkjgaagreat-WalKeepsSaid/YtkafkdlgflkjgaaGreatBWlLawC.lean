/-
  WalCosts' walk. By an AI agent.
-/
import Derived.Test.YtkafkdlgflkjgaaGreatBWlKnR
import Derived.Test.YtkafkdlgflkjgaaGreatBWlMuch
import Derived.Test.YtkafkdlgflkjgaaGreatBWlUp
namespace Go.Proofs.YtkafkdlgflkjgaaGreat
open Go.RowKit Go.Maps Crc

/-- How a journal stands behind so many ops. -/
structure CSt (es : List WOpD) (n j : Nat) (y : Bay) (J : Wl.Jn) (d : Dk) (B L : Nat) : Prop where
 ok : Wl.Ok y J d B
 b : B ≤ 3 + j
 low : y.Low L
 l : L ≤ 3000 + 3 * wopW es j
 slot : J.slot = 0
 size : J.S = n

theorem CSt.begin {es : List WOpD} {n : Nat} (n5 : 5 ≤ n) (n2 : n ≤ 2048) : ∃ d, CSt es n 0 (Wl.fmtIo (Bay.new [2050]) 0 n 3).1 (Wl.begun 0 n ⟨3, 1, 0⟩ 0 1) d 3 2050 := by
 obtain ⟨_, d, h⟩ := Wl.cost_begin n5 n2
 exact ⟨d, h, Nat.le_refl _, (Wl.fmtIo_low (Bay.new_low [2050]) 0 n 3).mono (by omega), by omega, rfl, rfl⟩

theorem CSt.next {es : List WOpD} {n j : Nat} {y : Bay} {J : Wl.Jn} {d : Dk} {B L nw nf k : Nat} {o : Wl.Out} {a : WOpD} (h : CSt es n j y J d B L) (ha : es[j]? = some a) (c : Wl.Costs y J B o nw nf) (hl : o.bay.Low (L + k)) (hk : k ≤ 3 * a.weight) : ∃ d', CSt es n (j + 1) o.bay o.jn d' (B + 1) (L + k) := by
 obtain ⟨d', ok⟩ := c.ok
 refine ⟨d', ok, by have := h.b; omega, hl, ?_, c.slot.trans h.slot, c.size.trans h.size⟩
 rw [wopW_succ ha]
 have := h.l
 omega

theorem CSt.idle {es : List WOpD} {n j : Nat} {y : Bay} {J : Wl.Jn} {d : Dk} {B L : Nat} {a : WOpD} (h : CSt es n j y J d B L) (ha : es[j]? = some a) : ∃ d', CSt es n (j + 1) y J d' (B + 1) (L + 0) :=
 h.next ha (h.ok.same (e := 1) (by decide) 0 0) h.low (by omega)

theorem CSt.fit {es : List WOpD} {n j : Nat} {y : Bay} {J : Wl.Jn} {d : Dk} {B L : Nat} (h : CSt es n j y J d B L) (hj : j ≤ 100000) : J.Fit := h.ok.fit (by have := h.b; omega)

/-- So many operations more, if it is not refused. -/
def CDone (y : Bay) (o : Wl.Out) (nw nf : Int) : Prop :=
 o.bay.reads = y.reads ∧ (o.err = 0 → (o.bay.writes : Int) = y.writes + nw ∧ (o.bay.flushes : Int) = y.flushes + nf) ∧ (o.err ≠ 0 → o.bay.writes = y.writes ∧ o.bay.flushes = y.flushes)

/-- What a call comes to, in the walk: its error, the journal behind it, and so many operations. -/
def CPost (w0 : World) (es : List WOpD) (n j b W D R : Nat) (y : Bay) (ts : List Thing) (nw nf : Int) (e : Ending) (w' : World) : Prop :=
 ∃ (o : Wl.Out) (cv : Value) (F : List Nat) (d : Dk) (B L : Nat), e = .returned (.int .u16 o.err) ∧ Hid (CSt es n (j + 1) o.bay o.jn d B L) ∧
   Hid (CDone y o nw nf) ∧ Hid (Side w0 w' (jts b W D R o.jn cv o.bay F ts))

theorem wopW_le {es : List WOpD} (h : wopW es es.length ≤ 5000) : es.length ≤ 5000 ∧ ∀ j, wopW es j ≤ 5000 := by
 have h1 : ∀ l : List WOpD, l.length ≤ (l.map WOpD.weight).sum := fun l => by
  induction l with
  | nil => exact Nat.le_refl 0
  | cons a l ih =>
    rw [List.map_cons, List.sum_cons, List.length_cons]
    have : 1 ≤ a.weight := by unfold WOpD.weight; omega
    omega
 have h2 : ∀ (l : List WOpD) (j : Nat), ((l.take j).map WOpD.weight).sum ≤ (l.map WOpD.weight).sum := fun l => by
  induction l with
  | nil => intro j; simp
  | cons a l ih =>
    intro j
    cases j with
    | zero => simp
    | succ j =>
      rw [List.take_succ_cons, List.map_cons, List.sum_cons, List.map_cons, List.sum_cons]
      have := ih j
      omega
 unfold wopW at h ⊢
 rw [List.take_length] at h
 exact ⟨Nat.le_trans (h1 es) h, fun j => Nat.le_trans (h2 es j) h⟩

section
variable {w0 X : World} {es : List WOpD} {n j b W D R : Nat} {y : Bay} {J : Wl.Jn} {d : Dk} {B L : Nat} {cv : Value} {F : List Nat} {ts : List Thing} {a : WOpD}

theorem CSt.bound (h : CSt es n j y J d B L) (hw : wopW es es.length ≤ 5000) : L ≤ 20000 := by
 have := h.l
 have := (wopW_le hw).2 j
 omega

theorem CPost.of {e : Ending} {w' : World} {o : Wl.Out} {nw nf k : Nat} {cv' : Value} {F' : List Nat} (h : CSt es n j y J d B L) (ha : es[j]? = some a) (c : Wl.Costs y J B o nw nf) (hl : o.bay.Low (L + k)) (hk : k ≤ 3 * a.weight) {mw mf : Int} (hm : o.err = 0 → mw = nw ∧ mf = nf) (he : e = .returned (.int .u16 o.err)) (H : Side w0 w' (jts b W D R o.jn cv' o.bay F' ts)) : CPost w0 es n j b W D R y ts mw mf e w' := by
 obtain ⟨d', s⟩ := h.next ha c hl hk
 exact ⟨o, cv', F', d', _, _, he, s, ⟨c.reads, fun q => by have := c.did q; have := hm q; omega, c.no⟩, H⟩

theorem meas_next {N j : Nat} (h : j < N) : N - (intOf (.int .i64 ((j : Int) + 1))).toNat < N - (intOf (.int .i64 (j : Int))).toNat := by
 show N - ((j : Int) + 1).toNat < N - ((j : Int)).toNat
 omega

theorem log_err0 {y : Bay} {J : Wl.Jn} {e : Int} {l : List Pd} (h : (Wl.logJ y J e l).err = 0) : e = 0 := by
 unfold Wl.logJ at h
 split at h
 next q => exact absurd h q
 next q =>
  have q' : Wl.logErr J e l.length = 0 := by omega
  unfold Wl.logErr at q'
  split at q'
  ·rename_i hb; omega
  ·split at q'
   ·exact q'
   ·omega

end

end Go.Proofs.YtkafkdlgflkjgaaGreat

/-
  'begun' and 'calls': a new journal on a bay of two disks, and one of the five calls. By an AI agent.
-/
namespace Go.Proofs.YtkafkdlgflkjgaaGreat
open Go.RowKit Go.Maps Crc

namespace Wl

/-- What one of the five calls comes to. -/
def callJ (y : Bay) (J : Jn) (a : WOpD) : Out :=
 if a.kind = 1 then logJ y J (scErr J.ep J.next a.pts) (a.pts.map pdOf) else
 if a.kind = 2 then sealJ y J else if a.kind = 3 then syncJ y J else if a.kind = 4 then passJ y J J.ep else
 if a.kind = 5 then passJ y J (J.ep + 1) else ⟨0, y, J⟩

/-- A bay of two empty disks, and a new journal on the first. -/
def twoBay (n : Nat) : Bay := Bay.new [((2 + n : Nat) : Int), ((2 + n : Nat) : Int)]
def bgBay (n : Nat) : Bay := (fmtIo (twoBay n) 0 n 1).1
def bgJn (n : Nat) : Jn := begun 0 n ⟨1, 1, 0⟩ 0 1

theorem two_up (n : Nat) (s : Int) (hs : s = 0 ∨ s = 1) : (twoBay n).Up s (Dk.new (2 + n)) := by
 have e : Bay.slotOf ((2 + n : Nat) : Int) = ⟨some ⟨Dk.new (2 + n), none⟩, none, none⟩ := by
  unfold Bay.slotOf
  rw [if_neg (show ¬ ((2 + n : Nat) : Int) = 0 by omega)]
  rfl
 have e2 : twoBay n = ⟨[⟨some ⟨Dk.new (2 + n), none⟩, none, none⟩, ⟨some ⟨Dk.new (2 + n), none⟩, none, none⟩], false, none, 0, 0, 0⟩ := by
  unfold twoBay Bay.new
  rw [List.map_cons, List.map_cons, e]
  rfl
 rw [e2]
 rcases hs with rfl | rfl <;> exact ⟨rfl, rfl, rfl, rfl⟩

end Wl

/-- The journal stands behind one more call. -/
theorem CSt.call {es : List WOpD} {n j : Nat} {y : Bay} {J : Wl.Jn} {d : Dk} {B L : Nat} {a : WOpD} (h : CSt es n j y J d B L) (ha : es[j]? = some a) (hb : ∀ p ∈ a.pts, By p.d) : ∃ d' B' L', CSt es n (j + 1) (Wl.callJ y J a).bay (Wl.callJ y J a).jn d' B' L' := by
 unfold Wl.callJ
 split
 ·have hg : scErr J.ep J.next a.pts = 0 → Sc.Good (a.pts.map pdOf) := fun q => (scErr_zero q hb).2.1
  have low := Wl.logJ_low h.low J (scErr J.ep J.next a.pts) (a.pts.map pdOf)
  rw [List.length_map] at low
  obtain ⟨d', s⟩ := h.next ha (h.ok.logCosts hg) low (by unfold WOpD.weight; omega)
  exact ⟨d', _, _, s⟩
 split
 ·obtain ⟨d', s⟩ := h.next ha h.ok.sealCosts (Wl.sealJ_low h.low J) (by unfold WOpD.weight; omega)
  exact ⟨d', _, _, s⟩
 split
 ·obtain ⟨d', s⟩ := h.next ha h.ok.syncCosts.2 (Wl.syncJ_low h.low J) (by unfold WOpD.weight; omega)
  exact ⟨d', _, _, s⟩
 split
 ·obtain ⟨d', s⟩ := h.next ha (h.ok.passCosts J.ep (Nat.le_succ_of_le h.ok.ep)) (Wl.passJ_low h.low J J.ep) (by unfold WOpD.weight; omega)
  exact ⟨d', _, _, s⟩
 split
 ·obtain ⟨d', s⟩ := h.next ha (h.ok.passCosts (J.ep + 1) (by have := h.ok.ep; omega)) (Wl.passJ_low h.low J (J.ep + 1)) (by unfold WOpD.weight; omega)
  exact ⟨d', _, _, s⟩
 ·obtain ⟨d', s⟩ := h.idle ha
  exact ⟨d', _, _, s⟩

set_option maxHeartbeats 4000000 in
set_option maxRecDepth 100000 in
theorem calls_any {w0 X : World} {b W D R : Nat} {J : Wl.Jn} {cv : Value} {y : Bay} {F : List Nat} {ts : List Thing} (H : Side w0 X (jts b W D R J cv y F ts)) (hf : J.Fit) (hs : I64 J.slot) (hl : y.Low 999990000)
 (a : WOpD) (h2 : Pts X a.ptsV a.pts) (hb : ∀ p ∈ a.pts, By p.d ∧ Cap p.v) (h3 : ∃ o n c, a.keepV = .slice o n c) :
 Calls Tryz.prog 38 #[.pointer (some ⟨W, 0, none⟩), .agg #[.int .i64 a.kind, .int .i64 a.num, a.ptsV, a.keepV]] X (AnsL w0 b W D R ts (Wl.callJ y J a)) := by
 obtain ⟨o2, c2, e2⟩ := h2.slice
 obtain ⟨o3, n3, c3, e3⟩ := h3
 obtain ⟨wB, hwB⟩ : ∃ wB, wB = X.alloc (.cells #[.int .i64 a.kind, .int .i64 a.num, a.ptsV, a.keepV] 61) := ⟨_, rfl⟩
 have HB : Side w0 wB (jts b W D R J cv y F (blkT X.heap.size 61 [.int .i64 a.kind, .int .i64 a.num, a.ptsV, a.keepV] :: ts)) := by rw [hwB]; exact H.behind _ [_, _, _, _]
 have k0 := (HB.get 5 rfl : Blk _ _ _ _).cell (j := 0) rfl
 have k2 := (HB.get 5 rfl : Blk _ _ _ _).cell (j := 2) rfl
 have hPT : Pts wB a.ptsV a.pts := by rw [hwB]; exact h2.chg ((Chg.refl [] X).alloc _)
 have C1 := Lib.hid (wlog_any HB hf hs hl _ a.pts hPT hb)
 have C2 := Lib.hid (wseal_any HB hf hs (hl.mono (by decide)))
 have C3 := Lib.hid (wsync_any HB hs (hl.mono (by decide)))
 have C4 := Lib.hid (wreclaim_any HB hf hs (hl.mono (by decide)))
 have C5 := Lib.hid (wrenew_any HB hf hs (hl.mono (by decide)))
 have fin : Hid (∀ (o : Wl.Out) e w', AnsL w0 b W D R (blkT X.heap.size 61 [.int .i64 a.kind, .int .i64 a.num, a.ptsV, a.keepV] :: ts) o e w' → AnsL w0 b W D R ts o e w') := fun o e w' ⟨h1, F', cv', h2⟩ => ⟨h1, F', cv', h2.out.less⟩
 have fin2 : Hid (∀ (o : Wl.Out) e w', Ans w0 b W D R cv (blkT X.heap.size 61 [.int .i64 a.kind, .int .i64 a.num, a.ptsV, a.keepV] :: ts) o e w' → AnsL w0 b W D R ts o e w') := fun o e w' ⟨h1, F', h2⟩ => ⟨h1, F', cv, h2.out.less⟩
 have f0 : Hid (AnsL w0 b W D R ts ⟨0, y, J⟩ (.returned (.int .u16 0)) wB) := ⟨rfl, F, cv, HB.less⟩
 clear HB hPT h2 H hf hs hl
 rw [e2] at k2 C1 C2 C3 C4 C5 fin fin2 hwB ⊢
 rw [e3] at C1 C2 C3 C4 C5 fin fin2 hwB ⊢
 clear e2 e3
 subst hwB
 unfold Wl.callJ
 generalize a.kind = k at *
 generalize a.num = num at *
 go_enter Tryz.func38, Tryz.ntmps38
 by_cases q1 : k = 1
 ·subst q1
  rw [if_pos rfl]
  go_wp2_with (go_at_call 30; refine C1.out.mono ?_; rintro e w' ⟨rfl, F', cv', h⟩)
  go_ret
  exact fin.out _ _ _ ⟨rfl, F', cv', h⟩
 rw [if_neg q1]
 have b1 : (k == 1) = false := by simpa using q1
 by_cases q2 : k = 2
 ·subst q2
  rw [if_pos rfl]
  go_wp2_with (go_at_call 31; refine C2.out.mono ?_; rintro e w' ⟨rfl, F', h⟩)
  go_ret
  exact fin2.out _ _ _ ⟨rfl, F', h⟩
 rw [if_neg q2]
 have b2 : (k == 2) = false := by simpa using q2
 by_cases q3 : k = 3
 ·subst q3
  rw [if_pos rfl]
  go_wp2_with (go_at_call 32; refine C3.out.mono ?_; rintro e w' ⟨rfl, F', h⟩)
  go_ret
  exact fin2.out _ _ _ ⟨rfl, F', h⟩
 rw [if_neg q3]
 have b3 : (k == 3) = false := by simpa using q3
 by_cases q4 : k = 4
 ·subst q4
  rw [if_pos rfl]
  go_wp2_with (go_at_call 33; refine C4.out.mono ?_; rintro e w' ⟨rfl, F', h⟩)
  go_ret
  exact fin2.out _ _ _ ⟨rfl, F', h⟩
 rw [if_neg q4]
 have b4 : (k == 4) = false := by simpa using q4
 by_cases q5 : k = 5
 ·subst q5
  rw [if_pos rfl]
  go_wp2_with (go_at_call 34; refine C5.out.mono ?_; rintro e w' ⟨rfl, F', h⟩)
  go_ret
  exact fin2.out _ _ _ ⟨rfl, F', h⟩
 rw [if_neg q5]
 have b5 : (k == 5) = false := by simpa using q5
 go_wp2_with fail
 go_ret
 exact f0

/-- Reclaim and Renew, when they are not refused. -/
theorem Wl.Ok.passing_ok {y : Bay} {J : Wl.Jn} {d : Dk} {B : Nat} (h : Wl.Ok y J d B) (ep : Nat) (hs : J.sure = true) (hok : Ck.Ok ⟨ep, J.next, (J.head : Nat)⟩) : (Wl.passJ y J ep).err = 0 ∧ (Wl.passJ y J ep).jn = Wl.passed J ep ∧
 y.Went (Wl.passJ y J ep).bay J.slot { d with last := (d.cache ++ [(1, Ck.enc ⟨ep, J.next, (J.head : Nat)⟩)]).foldl Dk.lay d.last, cache := [] } 0 1 1 := by
 have hlen : (Ck.enc ⟨ep, J.next, (J.head : Nat)⟩).length = 128 := by
  unfold Ck.enc
  rw [if_pos hok]
  exact Rec.sector_length (by show (1 : Nat) ≤ 25; decide)
 have hz := h.size
 obtain ⟨w1, w2⟩ := h.up.write (p := 1) (x := Ck.enc ⟨ep, J.next, (J.head : Nat)⟩) (by omega) hlen
 obtain ⟨b1, b2⟩ := Wl.fl_up w2.up
 have he : Ck.err ⟨ep, J.next, (J.head : Nat)⟩ = 0 := by unfold Ck.err; rw [if_pos hok]
 have e1 : Wl.passIo y J ep = Wl.fl J.slot (y.write J.slot ((1 : Nat) : Int) (Ck.enc ⟨ep, J.next, (J.head : Nat)⟩), 0) := by
  unfold Wl.passIo
  rw [h.br]
  have : Wl.wr J.slot (y, 0) 1 (Ck.enc ⟨ep, J.next, (J.head : Nat)⟩) = (y.write J.slot ((1 : Nat) : Int) (Ck.enc ⟨ep, J.next, (J.head : Nat)⟩), 0) := by
   unfold Wl.wr
   rw [if_pos rfl]
   exact Prod.ext rfl w1
  rw [this]
 have e : Wl.passJ y J ep = ⟨0, (Wl.passIo y J ep).1, (Wl.passed J ep).broke 0⟩ := by
  unfold Wl.passJ Wl.ends
  rw [if_neg (fun q => q h.br), if_neg (by rw [hs]; decide), if_neg (by rw [he]; exact fun q => q rfl), if_pos (by rw [e1]; exact b1)]
 have e4 : (Wl.passed J ep).broke 0 = Wl.passed J ep := by unfold Wl.Jn.broke Wl.passed; rw [h.br]
 have w := w2.trans b2
 rw [← e1] at w
 rw [e, e4]
 exact ⟨rfl, rfl, by simpa using w⟩

theorem Wl.Ok.passing_no {y : Bay} {J : Wl.Jn} {d : Dk} {B : Nat} (h : Wl.Ok y J d B) (ep : Nat) (hno : ¬ (J.sure = true ∧ Ck.Ok ⟨ep, J.next, (J.head : Nat)⟩)) : Wl.passJ y J ep = ⟨if J.sure = false then 1 else 80, y, J⟩ := by
 unfold Wl.passJ
 rw [if_neg (fun q => q h.br)]
 by_cases hs : J.sure = false
 ·rw [if_pos hs, if_pos hs]
 ·have he : Ck.err ⟨ep, J.next, (J.head : Nat)⟩ = 80 := by
   unfold Ck.err
   rw [if_neg (fun q => hno ⟨by simpa using hs, q⟩)]
  rw [if_neg hs, if_neg hs, he, if_pos (by decide)]

end Go.Proofs.YtkafkdlgflkjgaaGreat

/-
  What lies on a journal's disk, in numbers. No function of the program is named here. By an AI agent.
-/
namespace Go.Proofs.YtkafkdlgflkjgaaGreat
open Crc
namespace Wl

theorem over_hit {k : Nat} {x : List Nat} : ∀ {ws : List (Nat × List Nat)} {b : List Nat}, (∃ w ∈ ws, w.1 = k) → (∀ w ∈ ws, w.1 = k → w.2 = x) → Dk.over k b ws = x
 | [], _, ⟨_, h, _⟩, _ => by cases h
 | w :: ws, b, he, h => by
   show Dk.over k (if w.1 = k then w.2 else b) ws = x
   by_cases e : w.1 = k
   ·rw [if_pos e, h w List.mem_cons_self e]
    exact over_same (fun v hv => h v (List.mem_cons_of_mem _ hv))
   ·rw [if_neg e]
    obtain ⟨v, hv, hk⟩ := he
    refine over_hit ⟨v, ?_, hk⟩ (fun v hv => h v (List.mem_cons_of_mem _ hv))
    rcases List.mem_cons.1 hv with rfl | q
    ·exact absurd hk e
    ·exact q

theorem over_miss {k : Nat} {ws : List (Nat × List Nat)} {b : List Nat} (h : ∀ w ∈ ws, w.1 ≠ k) : Dk.over k b ws = b := over_same (fun w hw e => absurd e (h w hw))

theorem over_or {k : Nat} : ∀ (ws : List (Nat × List Nat)) (b : List Nat), Dk.over k b ws = b ∨ ∃ w ∈ ws, w.1 = k ∧ Dk.over k b ws = w.2
 | [], _ => .inl rfl
 | w :: ws, b => by
   have e : Dk.over k b (w :: ws) = Dk.over k (if w.1 = k then w.2 else b) ws := rfl
   rw [e]
   rcases over_or ws (if w.1 = k then w.2 else b) with h | ⟨v, hv, hk, h⟩
   ·rw [h]
    by_cases q : w.1 = k
    ·exact .inr ⟨w, List.mem_cons_self, q, by rw [if_pos q]⟩
    ·exact .inl (if_neg q)
   ·exact .inr ⟨v, List.mem_cons_of_mem _ hv, hk, h⟩

theorem now_flushed {d d' : Dk} {ws : List (Nat × List Nat)} (e : d' = { d with last := (d.cache ++ ws).foldl Dk.lay d.last, cache := [] }) {k : Nat} (hk : k < d.last.length) : d'.now k = Dk.over k (d.now k) ws := by
 rw [Dk.now_eq, Dk.now_eq d, ← over_app, e]
 show Dk.over k (((d.cache ++ ws).foldl Dk.lay d.last).getD k []) [] = _
 rw [Dk.lays_getD _ _ _ hk]
 rfl

theorem now_cached {d d' : Dk} {ws : List (Nat × List Nat)} (e : d' = { d with cache := d.cache ++ ws }) (k : Nat) : d'.now k = Dk.over k (d.now k) ws := by
 rw [Dk.now_eq, Dk.now_eq d, ← over_app, e]

/-- A place of the ring, from the tail on. -/
def spot (J : Jn) (a : Nat) : Nat := 2 + (J.t + a) % J.S

theorem place_spot (J : Jn) (i : Nat) : J.place i = spot J (J.u + i) := rfl

theorem spot_lt {J : Jn} (h : 0 < J.S) (a : Nat) : 2 ≤ spot J a ∧ spot J a < 2 + J.S := by
 have : (J.t + a) % J.S < J.S := Nat.mod_lt _ h
 unfold spot
 omega

theorem spot_inj {J : Jn} {a b : Nat} (ha : a < J.S) (hb : b < J.S) (h : spot J a = spot J b) : a = b := by
 unfold spot at h
 rcases Nat.lt_trichotomy a b with q | q | q
 ·exact absurd (by omega) (Sc.mod_ne (s := J.S) (a := J.t) (j := a) (k := b) q (by omega))
 ·exact q
 ·exact absurd (by omega) (Sc.mod_ne (s := J.S) (a := J.t) (j := b) (k := a) q (by omega))

theorem puts_at {J : Jn} {l : List (List Nat)} {i : Nat} {x : List Nat} (hi : l[i]? = some x) : (J.place i, x) ∈ J.puts l := by
 obtain ⟨h1, h2⟩ := List.getElem?_eq_some_iff.1 hi
 exact List.mem_mapIdx.2 ⟨i, h1, by rw [h2]⟩

theorem puts_is {J : Jn} {l : List (List Nat)} {w : Nat × List Nat} (h : w ∈ J.puts l) : ∃ i, i < l.length ∧ l[i]? = some w.2 ∧ w.1 = J.place i := by
 obtain ⟨i, hi, e⟩ := List.mem_mapIdx.1 h
 exact ⟨i, hi, by rw [← e]; exact List.getElem?_eq_getElem hi, by rw [← e]⟩

theorem over_puts_hit {J : Jn} {l : List (List Nat)} {i : Nat} {x b : List Nat} (hl : J.u + l.length ≤ J.S) (hi : l[i]? = some x) : Dk.over (spot J (J.u + i)) b (J.puts l) = x := by
 have hil := (List.getElem?_eq_some_iff.1 hi).1
 refine over_hit ⟨_, puts_at hi, rfl⟩ (fun w hw e => ?_)
 obtain ⟨j, hj, h1, h2⟩ := puts_is hw
 rw [h2, place_spot] at e
 have := spot_inj (by omega) (by omega) e
 obtain rfl : j = i := by omega
 exact Option.some.inj (h1.symm.trans hi)

theorem over_puts_miss {J : Jn} {l : List (List Nat)} {a : Nat} {b : List Nat} (hl : J.u + l.length ≤ J.S) (ha : a < J.u) : Dk.over (spot J a) b (J.puts l) = b := by
 refine over_miss (fun w hw e => ?_)
 obtain ⟨j, hj, h1, h2⟩ := puts_is hw
 rw [h2, place_spot] at e
 have := spot_inj (by omega) (by omega) e
 omega

theorem cm_esc {b : List Nat} (h : b.length = 128) : Cm.derr (escV b) ≠ 0 := by
 refine (Sc.derr_other ?_).2
 unfold escV
 rw [if_pos h]
 split
 ·rw [List.take_left' (by simp)]
  decide
 ·rename_i c
  simpa [begOf] using c

/-- A batch's sectors ahead of its commit are no commits. -/
theorem body_not {ep sq : Nat} {l : List Pd} {j : Nat} {s : List Nat} (hg : Sc.Good l) (hj : j < 2 * l.length) (hs : (Sc.secs ep sq l)[j]? = some s) : Cm.derr s ≠ 0 := by
 rcases Nat.mod_two_eq_zero_or_one j with q | q
 ·obtain ⟨i, rfl⟩ : ∃ i, j = 2 * i := ⟨j / 2, by omega⟩
  rw [Sc.secs_hd ep sq (by omega)] at hs
  obtain rfl := Option.some.inj hs
  unfold Sc.hsec
  rw [(other_kind (r := (Sc.hdOf ep sq l.length i (Sc.at' l i)).rec') (show 6 ≤ 25 by decide) (show 1 ≤ 1 by decide) (show 1 ≤ 3 by decide)).2.1 (show (1 : Nat) ≠ 2 by decide)]
  decide
 ·obtain ⟨i, rfl⟩ : ∃ i, j = 2 * i + 1 := ⟨j / 2, by omega⟩
  have hi : i < l.length := by omega
  rw [Sc.secs_dt ep sq hi] at hs
  obtain rfl := Option.some.inj hs
  rw [Sc.at'_eq (List.getElem?_eq_getElem hi)]
  exact cm_esc (hg.2.2 _ (List.getElem_mem hi)).2.2.1

/-- What lies on a journal's disk: the batches L, sealed behind one another from the tail on, and what is logged. -/
structure Keeps (d : Dk) (J : Jn) (L : List (List Pd)) (G : Option (List Pd)) : Prop where
 bytes : ∀ p, p < J.S → (d.now (2 + p)).length = 128 ∧ Bs (d.now (2 + p))
 ck : d.now 1 = Ck.enc ⟨J.ep, J.next - L.length, (J.t : Nat)⟩
 cok : Ck.Ok ⟨J.ep, J.next - L.length, (J.t : Nat)⟩
 good : ∀ l ∈ L, Sc.Good l
 nx : L.length + 1 ≤ J.next
 used : J.u = (Sc.chain J.ep (J.next - L.length) L).length
 laid : ∀ (j : Nat) (s : List Nat), (Sc.chain J.ep (J.next - L.length) L)[j]? = some s → d.now (spot J j) = s
 free : ∀ p, p < J.S → Cm.derr (d.now (2 + p)) = 0 → (Cm.of (d.now (2 + p))).ep < J.ep ∨ ((Cm.of (d.now (2 + p))).ep = J.ep ∧ (Cm.of (d.now (2 + p))).sq < J.next)
 com : J.commit = G.map (commitOf J)
 log : ∀ l, G = some l → Sc.Good l ∧ J.cost = 2 * l.length + 1 ∧ ∀ (j : Nat) (s : List Nat), j < 2 * l.length → (Sc.secs J.ep J.next l)[j]? = some s → d.now (spot J (J.u + j)) = s

theorem Keeps.moved {d d' : Dk} {J : Jn} {L : List (List Pd)} {G : Option (List Pd)} (h : Keeps d J L G) (hS : 0 < J.S) (e : ∀ k, k < 2 + J.S → d'.now k = d.now k) : Keeps d' J L G := by
 refine ⟨fun p hp => by rw [e _ (by omega)]; exact h.bytes p hp, by rw [e _ (by omega)]; exact h.ck, h.cok, h.good, h.nx, h.used, fun j s hj => by rw [e _ (spot_lt hS _).2]; exact h.laid j s hj, fun p hp => by rw [e _ (by omega)]; exact h.free p hp, h.com, fun l hl => ?_⟩
 obtain ⟨a, b, c⟩ := h.log l hl
 exact ⟨a, b, fun j s hj hs => by rw [e _ (spot_lt hS _).2]; exact c j s hj hs⟩

/-- A batch's sectors. -/
theorem body_at {J : Jn} {l : List Pd} {j : Nat} (hj : j < 2 * l.length) : (body J l)[j]? = (Sc.secs J.ep J.next l)[j]? := by
 unfold body
 rw [List.getElem?_take, if_pos hj]

theorem Keeps.logging {d d' : Dk} {J : Jn} {L : List (List Pd)} {G : Option (List Pd)} {l : List Pd} (h : Keeps d J L G) (hS : 5 ≤ J.S) (hlast : 2 + J.S ≤ d.last.length) (hg : Sc.Good l) (hfit : J.u + (2 * l.length + 1) ≤ J.S)
 (e : d' = { d with last := (d.cache ++ J.puts (body J l)).foldl Dk.lay d.last, cache := [] }) : Keeps d' (logged J l) L (some l) := by
 have hb : J.u + (body J l).length ≤ J.S := by rw [body_len]; omega
 have hn : ∀ k, k < 2 + J.S → d'.now k = Dk.over k (d.now k) (J.puts (body J l)) := fun k hk => now_flushed e (by omega)
 have hin : ∀ w ∈ J.puts (body J l), 2 ≤ w.1 ∧ ∃ j, j < 2 * l.length ∧ (Sc.secs J.ep J.next l)[j]? = some w.2 := fun w hw => by
  obtain ⟨i, h1, h2, h3⟩ := puts_is hw
  rw [body_len] at h1
  rw [body_at h1] at h2
  exact ⟨by rw [h3, place_spot]; exact (spot_lt (by omega) _).1, i, h1, h2⟩
 refine ⟨fun p hp => ?_, ?_, h.cok, h.good, h.nx, h.used, fun j s hj => ?_, fun p hp hd => ?_, rfl, fun l' hl' => ?_⟩
 ·have hp : p < J.S := hp
  rw [hn _ (by omega)]
  rcases over_or (k := 2 + p) (J.puts (body J l)) (d.now (2 + p)) with q | ⟨w, hw, _, q⟩
  ·rw [q]; exact h.bytes p hp
  ·rw [q]
   obtain ⟨_, j, _, hs⟩ := hin w hw
   exact Sc.secs_ok hg _ (List.mem_of_getElem? hs)
 ·rw [hn 1 (by omega), over_miss (fun w hw q => by have := (hin w hw).1; omega)]
  exact h.ck
 ·have hju : j < J.u := by rw [h.used]; exact (List.getElem?_eq_some_iff.1 hj).1
  show d'.now (spot J j) = s
  rw [hn _ (spot_lt (by omega) _).2, over_puts_miss hb hju]
  exact h.laid j s hj
 ·have hp : p < J.S := hp
  rw [hn _ (by omega)] at hd ⊢
  rcases over_or (k := 2 + p) (J.puts (body J l)) (d.now (2 + p)) with q | ⟨w, hw, _, q⟩
  ·rw [q] at hd ⊢; exact h.free p hp hd
  ·rw [q] at hd
   obtain ⟨_, j, hj, hs⟩ := hin w hw
   exact absurd hd (body_not hg hj hs)
 ·obtain rfl := Option.some.inj hl'
  refine ⟨hg, rfl, fun j s hj hs => ?_⟩
  show d'.now (spot J (J.u + j)) = s
  rw [hn _ (spot_lt (by omega) _).2]
  exact over_puts_hit hb (by rw [body_at hj]; exact hs)

theorem Keeps.sealing {d d' : Dk} {J : Jn} {L : List (List Pd)} {l : List Pd} (h : Keeps d J L (some l)) (hS : 5 ≤ J.S) (hfit : J.u + J.cost ≤ J.S) (hn : numsOk J.ep J.next)
 (e : d' = { d with cache := d.cache ++ [(J.place (J.cost - 1), commitOf J l)] }) : Keeps d' (sealed J) (L ++ [l]) none := by
 obtain ⟨hg, hc, hs⟩ := h.log l rfl
 have hn2 : ∀ k, d'.now k = Dk.over k (d.now k) [(J.place (J.cost - 1), commitOf J l)] := fun k => now_cached e k
 have hpl : J.place (J.cost - 1) = spot J (J.u + 2 * l.length) := by rw [place_spot, hc]; rfl
 rw [hpl] at hn2
 have h0 := (spot_lt (J := J) (by omega) (J.u + 2 * l.length)).1
 have hsq : J.next - L.length + L.length = J.next := by have := h.nx; omega
 have hsq2 : J.next + 1 - (L ++ [l]).length = J.next - L.length := by rw [List.length_append, List.length_singleton]; omega
 have hch : Sc.chain J.ep (J.next - L.length) (L ++ [l]) = Sc.chain J.ep (J.next - L.length) L ++ Sc.secs J.ep J.next l := by rw [Sc.chain_snoc, hsq]
 have cl := commit_len (J := J) hg
 have cmok : (Sc.cmOf J.ep J.next l.length (Sc.hcat J.ep J.next l l.length)).Ok := by
  have := hg.1
  have := hg.2.1
  refine ⟨hn, ?_, ?_⟩ <;> simp only [Sc.cmOf] <;> omega
 have hcm : Cm.of (commitOf J l) = Sc.cmOf J.ep J.next l.length (Sc.hcat J.ep J.next l l.length) := Cm.of_sector _ cmok (sum_lt_of (hcat_bs J.ep J.next l l.length))
 have hmiss : ∀ k, k ≠ spot J (J.u + 2 * l.length) → d'.now k = d.now k := fun k hk => by
  rw [hn2, over_miss (fun w hw q => hk (by rw [List.mem_singleton.1 hw] at q; exact q.symm))]
 have hhit : d'.now (spot J (J.u + 2 * l.length)) = commitOf J l := by
  rw [hn2]
  exact over_hit ⟨_, List.mem_singleton_self _, rfl⟩ (fun w hw _ => by rw [List.mem_singleton.1 hw])
 refine ⟨fun p hp => ?_, ?_, ?_, fun x hx => ?_, ?_, ?_, fun j s hj => ?_, fun p hp hd => ?_, rfl, fun l' hl' => (by cases hl')⟩
 ·have hp : p < J.S := hp
  by_cases q : 2 + p = spot J (J.u + 2 * l.length)
  ·rw [q, hhit]; exact cl
  ·rw [hmiss _ q]; exact h.bytes p hp
 ·show d'.now 1 = Ck.enc ⟨J.ep, J.next + 1 - (L ++ [l]).length, (J.t : Nat)⟩
  rw [hsq2, hmiss 1 (by omega)]
  exact h.ck
 ·show Ck.Ok ⟨J.ep, J.next + 1 - (L ++ [l]).length, (J.t : Nat)⟩
  rw [hsq2]
  exact h.cok
 ·rcases List.mem_append.1 hx with q | q
  ·exact h.good x q
  ·rw [List.mem_singleton.1 q]; exact hg
 ·show (L ++ [l]).length + 1 ≤ J.next + 1
  have := h.nx
  rw [List.length_append, List.length_singleton]
  omega
 ·show J.u + J.cost = (Sc.chain J.ep (J.next + 1 - (L ++ [l]).length) (L ++ [l])).length
  rw [hsq2, hch, List.length_append, ← h.used, Sc.secs_len, hc]
 ·have hj : (Sc.chain J.ep (J.next + 1 - (L ++ [l]).length) (L ++ [l]))[j]? = some s := hj
  show d'.now (spot J j) = s
  rw [hsq2, hch] at hj
  by_cases q : j < (Sc.chain J.ep (J.next - L.length) L).length
  ·rw [List.getElem?_append_left q] at hj
   rw [← h.used] at q
   rw [hmiss _ (fun k => by have := spot_inj (by omega) (by omega) k; omega)]
   exact h.laid j s hj
  ·rw [List.getElem?_append_right (by omega), ← h.used] at hj
   rw [← h.used] at q
   have hjl := (List.getElem?_eq_some_iff.1 hj).1
   rw [Sc.secs_len] at hjl
   obtain ⟨i, rfl⟩ : ∃ i, j = J.u + i := ⟨j - J.u, by omega⟩
   rw [Nat.add_sub_cancel_left] at hj hjl
   by_cases qi : i = 2 * l.length
   ·subst qi
    rw [Sc.secs_cm] at hj
    rw [hhit]
    exact Option.some.inj hj
   ·rw [hmiss _ (fun k => by have := spot_inj (by omega) (by omega) k; omega)]
    exact hs i s (by omega) hj
 ·have hp : p < J.S := hp
  show (Cm.of (d'.now (2 + p))).ep < J.ep ∨ ((Cm.of (d'.now (2 + p))).ep = J.ep ∧ (Cm.of (d'.now (2 + p))).sq < J.next + 1)
  by_cases q : 2 + p = spot J (J.u + 2 * l.length)
  ·rw [q, hhit, hcm]
   right
   exact ⟨rfl, Nat.lt_succ_self _⟩
  ·rw [hmiss _ q] at hd ⊢
   rcases h.free p hp hd with k | ⟨k, m⟩
   ·exact .inl k
   ·exact .inr ⟨k, by omega⟩

theorem Keeps.passing {d d' : Dk} {J : Jn} {L : List (List Pd)} {G : Option (List Pd)} {ep : Nat} (h : Keeps d J L G) (hS : 5 ≤ J.S) (hlast : 2 + J.S ≤ d.last.length) (hep : ep = J.ep ∨ ep = J.ep + 1) (hok : Ck.Ok ⟨ep, J.next, (J.head : Nat)⟩)
 (e : d' = { d with last := (d.cache ++ [(1, Ck.enc ⟨ep, J.next, (J.head : Nat)⟩)]).foldl Dk.lay d.last, cache := [] }) : Keeps d' (passed J ep) [] none := by
 have hn : ∀ k, k < 2 + J.S → d'.now k = Dk.over k (d.now k) [(1, Ck.enc ⟨ep, J.next, (J.head : Nat)⟩)] := fun k hk => now_flushed e (by omega)
 have hmiss : ∀ p, p < J.S → d'.now (2 + p) = d.now (2 + p) := fun p hp => by
  rw [hn _ (by omega), over_miss (fun w hw q => by rw [List.mem_singleton.1 hw] at q; have q : 1 = 2 + p := q; omega)]
 refine ⟨fun p hp => by rw [hmiss p hp]; exact h.bytes p hp, ?_, hok, fun l hl => (by cases hl), ?_, rfl, fun j s hj => (by cases hj), fun p hp hd => ?_, rfl, fun l hl => (by cases hl)⟩
 ·show d'.now 1 = Ck.enc ⟨ep, J.next, (J.head : Nat)⟩
  rw [hn 1 (by omega)]
  exact over_hit ⟨_, List.mem_singleton_self _, rfl⟩ (fun w hw _ => by rw [List.mem_singleton.1 hw])
 ·show 0 + 1 ≤ J.next
  have := h.nx
  omega
 ·have hp : p < J.S := hp
  show (Cm.of (d'.now (2 + p))).ep < ep ∨ ((Cm.of (d'.now (2 + p))).ep = ep ∧ (Cm.of (d'.now (2 + p))).sq < J.next)
  rw [hmiss p hp] at hd ⊢
  rcases h.free p hp hd with k | ⟨k, m⟩
  ·left; omega
  ·rcases hep with q | q
   ·right; exact ⟨by omega, m⟩
   ·left; omega

/-- What a scan of it finds. -/
theorem Keeps.done {d : Dk} {J : Jn} {L : List (List Pd)} {G : Option (List Pd)} (h : Keeps d J L G) (hS : 5 ≤ J.S) (hu : J.u ≤ J.S) (hn : numsOk J.ep J.next) :
 Sc.Done (ringB J.S fun p => d.now (2 + p)) J.ep J.t (J.next - L.length) L J.u := by
 have hb := fun p hp => (h.bytes p hp).1
 have hlen := ringB_len hb
 have hdiv : (ringB J.S fun p => d.now (2 + p)).length / 128 = J.S := by omega
 have hsec : ∀ p, Sc.sec (ringB J.S fun p => d.now (2 + p)) p = d.now (2 + p % J.S) := fun p => ringB_sec hb (by omega) p
 have hbs : Bs (ringB J.S fun p => d.now (2 + p)) := ringB_bs (fun p hp => (h.bytes p hp).2)
 have hsq : J.next - L.length + L.length = J.next := by have := h.nx; omega
 have hq := hn.2.2
 have G0 := Sc.got_of hbs hn.1 (show 1 ≤ J.next - L.length by have := h.nx; omega) L (fun j s hj => by rw [hsec]; exact h.laid j s hj) h.good (by rw [← h.used, hdiv]; exact hu) (by omega)
 rw [← h.used] at G0
 refine ⟨G0, fun n W => ?_⟩
 have he := W.ends
 rw [hsq, hsec] at he
 have hp : (J.t + J.u + 2 * n) % J.S < J.S := Nat.mod_lt _ (by omega)
 rcases h.free _ hp he.1 with k | ⟨_, k⟩
 ·have := he.2.1; omega
 ·have := he.2.2.1; omega

/-- The batches behind a call. -/
def after (a : WOpD) (e : Int) (L : List (List Pd)) (G : Option (List Pd)) : List (List Pd) × Option (List Pd) :=
 if e ≠ 0 then (L, G) else if a.kind = 1 then (L, some (a.pts.map pdOf)) else if a.kind = 2 then (L ++ G.toList, none) else if a.kind = 4 ∨ a.kind = 5 then ([], none) else (L, G)

/-- What a call leaves on the disk. -/
def Step (J : Jn) (a : WOpD) (L : List (List Pd)) (G : Option (List Pd)) (o : Out) : Prop :=
 ∃ d', o.bay.Up J.slot d' ∧ Keeps d' o.jn (after a o.err L G).1 (after a o.err L G).2 ∧ o.jn.next = J.next + (if a.kind = 2 ∧ o.err = 0 then 1 else 0) ∧ o.jn.slot = J.slot

theorem Step.no {y : Bay} {J : Jn} {d : Dk} {L : List (List Pd)} {G : Option (List Pd)} {a : WOpD} {e : Int} (u : y.Up J.slot d) (h : Keeps d J L G) (he : e ≠ 0) : Step J a L G ⟨e, y, J⟩ := by
 have ea : after a e L G = (L, G) := by unfold after; rw [if_pos he]
 refine ⟨d, u, ?_, ?_, rfl⟩
 ·show Keeps d J (after a e L G).1 (after a e L G).2
  rw [ea]
  exact h
 ·show J.next = J.next + (if a.kind = 2 ∧ e = 0 then 1 else 0)
  rw [if_neg (fun q => he q.2)]
  rfl

theorem Step.pass {y : Bay} {J : Jn} {d : Dk} {B : Nat} {L : List (List Pd)} {G : Option (List Pd)} {a : WOpD} {ep : Nat} (ok : Ok y J d B) (h : Keeps d J L G) (hk : a.kind = 4 ∨ a.kind = 5) (hep : ep = J.ep ∨ ep = J.ep + 1) : Step J a L G (passJ y J ep) := by
 by_cases hp : J.sure = true ∧ Ck.Ok ⟨ep, J.next, (J.head : Nat)⟩
 ·obtain ⟨h1, h2, h3⟩ := ok.passing_ok ep hp.1 hp.2
  have ea : after a (passJ y J ep).err L G = ([], none) := by
   unfold after
   rw [if_neg (fun q => q h1), if_neg (by omega), if_neg (by omega), if_pos hk]
  refine ⟨_, h3.up, ?_, ?_, by rw [h2]; rfl⟩
  ·rw [ea, h2]
   exact h.passing ok.lo ok.size hep hp.2 rfl
  ·rw [h2, if_neg (by omega)]
   rfl
 ·rw [ok.passing_no ep hp]
  refine Step.no ok.up h ?_
  split <;> decide

theorem Keeps.call {y : Bay} {J : Jn} {d : Dk} {B : Nat} {L : List (List Pd)} {G : Option (List Pd)} {a : WOpD} (ok : Ok y J d B) (hB : B ≤ 4611686018427387904) (h : Keeps d J L G) (hb : ∀ p ∈ a.pts, By p.d) : Step J a L G (callJ y J a) := by
 have hn : numsOk J.ep J.next := ⟨Nat.le_trans ok.ep hB, by have := h.nx; omega, Nat.le_trans ok.next hB⟩
 by_cases k1 : a.kind = 1
 ·have e : callJ y J a = logJ y J (scErr J.ep J.next a.pts) (a.pts.map pdOf) := by unfold callJ; rw [if_pos k1]
  rw [e]
  have hg : scErr J.ep J.next a.pts = 0 → Sc.Good (a.pts.map pdOf) := fun q => (scErr_zero q hb).2.1
  by_cases h0 : logErr J (scErr J.ep J.next a.pts) (a.pts.map pdOf).length = 0
  case neg =>
   rw [ok.log_no h0]
   exact Step.no ok.up h h0
  have he : scErr J.ep J.next a.pts = 0 := by
   by_cases q : scErr J.ep J.next a.pts = 0
   ·exact q
   ·unfold logErr at h0
    rw [if_neg (fun k => k ok.br), if_pos q] at h0
    exact h0
  rw [he] at h0 ⊢
  have hfit : 2 * (a.pts.map pdOf).length + 1 ≤ J.S - J.u := by
   unfold logErr at h0
   rw [if_neg (fun q => q ok.br), if_neg (fun q => q rfl)] at h0
   split at h0
   ·cases h0
   ·split at h0
    ·cases h0
    ·omega
  obtain ⟨d', h1, h2, _, h4, h5⟩ := ok.log (hg he) h0
  have ea : after a (logJ y J 0 (a.pts.map pdOf)).err L G = (L, some (a.pts.map pdOf)) := by
   unfold after
   rw [if_neg (fun q => q h1), if_pos k1]
  refine ⟨d', h4.up, ?_, ?_, by rw [h2]; rfl⟩
  ·rw [ea, h2]
   exact h.logging ok.lo ok.size (hg he) (by have := ok.used; omega) h5
  ·rw [h2, if_neg (by omega)]
   rfl
 by_cases k2 : a.kind = 2
 ·have e : callJ y J a = sealJ y J := by unfold callJ; rw [if_neg k1, if_pos k2]
  rw [e]
  rcases ok.sealing with ⟨_, q⟩ | ⟨c, d', hc, h1, h2, h3, h4, h5⟩
  ·rw [q]
   exact Step.no ok.up h (by decide)
  ·cases hG : G with
   | none => rw [h.com, hG] at hc; cases hc
   | some l =>
     subst hG
     obtain rfl : commitOf J l = c := by rw [h.com] at hc; exact Option.some.inj hc
     have ea : after a (sealJ y J).err L (some l) = (L ++ [l], none) := by
      unfold after
      rw [if_neg (fun q => q h1), if_neg k1, if_pos k2]
      rfl
     refine ⟨d', h4.up, ?_, ?_, by rw [h2]; rfl⟩
     ·rw [ea, h2]
      exact h.sealing ok.lo (ok.com _ hc).2.2.2 hn h5
     ·rw [h2, if_pos ⟨k2, h1⟩]
      rfl
 by_cases k3 : a.kind = 3
 ·have e : callJ y J a = syncJ y J := by unfold callJ; rw [if_neg k1, if_neg k2, if_pos k3]
  rw [e]
  have ea : after a (syncJ y J).err L G = (L, G) := by
   unfold after
   split
   ·rfl
   ·first | rw [if_neg (show ¬ (a.kind = 4 ∨ a.kind = 5) by omega)] | rw [if_neg k1, if_neg k2, if_neg (show ¬ (a.kind = 4 ∨ a.kind = 5) by omega)]
  rcases ok.syncing with ⟨_, q⟩ | ⟨d', hs, h1, h2, h3, h4, h5⟩
  ·rw [q] at ea ⊢
   refine ⟨d, ok.up, ?_, ?_, rfl⟩
   ·rw [ea]; exact h
   ·rw [if_neg (by omega)]; rfl
  ·refine ⟨d', h4.up, ?_, ?_, by rw [h2]⟩
   ·rw [ea, h2]
    have m := h.moved (d' := d') (by have := ok.lo; omega) (fun k hk => by
     have e2 : d' = { d with last := (d.cache ++ []).foldl Dk.lay d.last, cache := [] } := by rw [h5, List.append_nil]
     rw [now_flushed e2 (by have := ok.size; omega)]
     rfl)
    exact ⟨m.bytes, m.ck, m.cok, m.good, m.nx, m.used, m.laid, m.free, m.com, m.log⟩
   ·rw [h2, if_neg (by omega)]
    rfl
 by_cases k4 : a.kind = 4
 ·have e : callJ y J a = passJ y J J.ep := by unfold callJ; rw [if_neg k1, if_neg k2, if_neg k3, if_pos k4]
  rw [e]
  exact Step.pass ok h (.inl k4) (.inl rfl)
 by_cases k5 : a.kind = 5
 ·have e : callJ y J a = passJ y J (J.ep + 1) := by unfold callJ; rw [if_neg k1, if_neg k2, if_neg k3, if_neg k4, if_pos k5]
  rw [e]
  exact Step.pass ok h (.inr k5) (.inr rfl)
 ·have e : callJ y J a = ⟨0, y, J⟩ := by unfold callJ; rw [if_neg k1, if_neg k2, if_neg k3, if_neg k4, if_neg k5]
  rw [e]
  have ea : after a 0 L G = (L, G) := by
   unfold after
   rw [if_neg (by decide), if_neg k1, if_neg k2, if_neg (by omega)]
  refine ⟨d, ok.up, ?_, ?_, rfl⟩
  ·show Keeps d J (after a 0 L G).1 (after a 0 L G).2
   rw [ea]; exact h
  ·show J.next = J.next + (if a.kind = 2 ∧ (0 : Int) = 0 then 1 else 0)
   rw [if_neg (fun q => k2 q.1)]
   rfl

/-- Behind Format. -/
theorem bg_keeps {n : Nat} (n5 : 5 ≤ n) (n2 : n ≤ 2048) : ∃ d, Ok (bgBay n) (bgJn n) d 3 ∧ Keeps d (bgJn n) [] none := by
 have hu : (twoBay n).Up 0 (Dk.new (2 + n)) := two_up n 0 (.inl rfl)
 obtain ⟨d', h1, _, h3, h4⟩ := fmt_up (s := 0) (d := Dk.new (2 + n)) (B := 3) (n := n) (ep := 1) hu n5 n2 (by show 2 + n ≤ (List.replicate (2 + n) (List.replicate 128 0)).length; rw [List.length_replicate]; omega) (by decide) ⟨by decide, by decide⟩
 obtain ⟨q1, q2, q3, q4⟩ := fresh_at (n := n) (ep := 1) rfl h4
 have hnow : ∀ k, d'.now k = d'.last.getD k [] := fun k => by unfold Dk.now; rw [q4]; rfl
 have hz : ∀ p, p < n → d'.now (2 + p) = Sc.zeros := fun p hp => by rw [hnow]; exact q1 p hp
 refine ⟨d', h3, fun p hp => ?_, ?_, ck1_ok, fun l hl => (by cases hl), Nat.le_refl _, rfl, fun j s hj => (by cases hj), fun p hp hd => ?_, rfl, fun l hl => (by cases hl)⟩
 ·rw [hz p hp]
  exact ⟨by simp [Sc.zeros], fun x hx => by rw [(List.mem_replicate.1 hx).2]; decide⟩
 ·show d'.now 1 = Ck.enc ⟨1, 1, 0⟩
  rw [hnow]
  exact q2
 ·rw [hz p hp] at hd
  exact absurd hd Sc.derr_zeros.2

end Wl
end Go.Proofs.YtkafkdlgflkjgaaGreat

/-
  Two journals side by side, and what a refused call leaves. By an AI agent.
-/
namespace Go.Proofs.YtkafkdlgflkjgaaGreat
open Go.RowKit Go.Maps Crc

section
variable {w0 w : World} {b W D R c V D' R' : Nat} {J J' : Wl.Jn} {cv cv' : Value} {y y' : Bay} {F F' : List Nat} {ts : List Thing}

end

/-- No other disk is to come into the journal's slot. -/
def NoCome (y : Bay) (s : Int) : Prop := (y.slots[s.toNat]?).bind (·.coming) = none

/-- What is to come into the slots is the same. -/
def Calm (y y' : Bay) : Prop := y'.slots.map (·.coming) = y.slots.map (·.coming)

theorem Calm.trans {y y1 y2 : Bay} (h : Calm y y1) (k : Calm y1 y2) : Calm y y2 := Eq.trans k h

theorem Calm.none {y y' : Bay} (h : Calm y y') {s : Int} (hc : NoCome y s) : NoCome y' s := by
 have e := congrArg (fun l => l[s.toNat]?) h
 simp only [List.getElem?_map] at e
 unfold NoCome at hc ⊢
 cases h1 : y.slots[s.toNat]? with
 | none =>
   rw [h1] at e
   cases h2 : y'.slots[s.toNat]? with
   | none => rfl
   | some x => rw [h2] at e; cases e
 | some x =>
   rw [h1] at e hc
   cases h2 : y'.slots[s.toNat]? with
   | none => rfl
   | some x' =>
     rw [h2] at e
     have e : x'.coming = x.coming := Option.some.inj e
     show x'.coming = Option.none
     rw [e]
     exact hc

theorem Calm.setIn (y : Bay) (s : Int) (d : Dev) : Calm y (y.setIn s d) := by
 show (y.slots.modify s.toNat (fun x => { x with inn := some d })).map (·.coming) = y.slots.map (·.coming)
 apply List.ext_getElem?
 intro i
 rw [List.getElem?_map, List.getElem?_map, List.getElem?_modify]
 cases y.slots[i]? with
 | none => rfl
 | some x =>
   by_cases q : s.toNat = i
   ·simp [q]
   ·simp [q]

theorem Calm.start (y : Bay) (s : Int) (what : Nat) : Calm y (y.start s what) := by
 unfold Bay.start
 split
 ·rfl
 split
 ·rfl
 split
 ·rfl
 split
 ·rfl
 ·exact Calm.setIn (y.counted what) s _

theorem Calm.write (y : Bay) (s at_ : Int) (x : List Nat) : Calm y (y.write s at_ x) := by
 unfold Bay.write
 split
 ·exact Calm.setIn (y.counted 2) s _
 ·exact Calm.start y s 2

theorem Calm.flush (y : Bay) (s : Int) : Calm y (y.flush s) := by
 unfold Bay.flush
 split
 ·exact Calm.setIn (y.counted 3) s _
 ·exact Calm.start y s 3

theorem Calm.wr (s : Int) (io : Wl.Io) (at_ : Int) (x : List Nat) : Calm io.1 (Wl.wr s io at_ x).1 := by
 unfold Wl.wr
 split
 ·exact Calm.write _ _ _ _
 ·rfl

theorem Calm.fl (s : Int) (io : Wl.Io) : Calm io.1 (Wl.fl s io).1 := by
 unfold Wl.fl
 split
 ·exact Calm.flush _ _
 ·rfl

theorem Calm.wrs (s : Int) : ∀ (ws : List (Nat × List Nat)) (io : Wl.Io), Calm io.1 (Wl.wrs s io ws).1
 | [], _ => rfl
 | w :: ws, io => (Calm.wr s io (w.1 : Int) w.2).trans (Calm.wrs s ws (Wl.wr s io (w.1 : Int) w.2))

theorem Calm.fmt (y : Bay) (s : Int) (n ep : Nat) : Calm y (Wl.fmtIo y s n ep).1 := ((Calm.wrs s _ (y, 0)).trans (Calm.wr s _ _ _)).trans (Calm.fl s _)

theorem Calm.pass (y : Bay) (J : Wl.Jn) (ep : Nat) : Calm y (Wl.passJ y J ep).bay := by
 unfold Wl.passJ
 split
 ·rfl
 split
 ·rfl
 split
 ·rfl
 ·rw [Wl.ends_bay]
  exact (Calm.wr J.slot (y, J.br) _ _).trans (Calm.fl J.slot _)

theorem Calm.call (y : Bay) (J : Wl.Jn) (a : WOpD) : Calm y (Wl.callJ y J a).bay := by
 unfold Wl.callJ
 split
 ·unfold Wl.logJ
  split
  ·rfl
  ·rw [Wl.ends_bay]
   exact (Calm.wrs J.slot _ (y, J.br)).trans (Calm.fl J.slot _)
 split
 ·unfold Wl.sealJ
  split
  ·rfl
  split
  ·rfl
  ·rw [Wl.ends_bay]
   exact Calm.wr J.slot (y, J.br) _ _
 split
 ·unfold Wl.syncJ
  split
  ·rfl
  ·rw [Wl.ends_bay]
   exact Calm.fl J.slot (y, J.br)
 split
 ·exact Calm.pass y J _
 split
 ·exact Calm.pass y J _
 ·rfl

theorem bg_come {n : Nat} (n5 : 5 ≤ n) (n2 : n ≤ 2048) : NoCome (Wl.bgBay n) 0 ∧ NoCome (Wl.bgBay n) 1 ∧ (Wl.bgBay n).Up 1 (Dk.new (2 + n)) := by
 have e2 : Wl.twoBay n = ⟨[⟨some ⟨Dk.new (2 + n), none⟩, none, none⟩, ⟨some ⟨Dk.new (2 + n), none⟩, none, none⟩], false, none, 0, 0, 0⟩ := by
  have e : Bay.slotOf ((2 + n : Nat) : Int) = ⟨some ⟨Dk.new (2 + n), none⟩, none, none⟩ := by
   unfold Bay.slotOf
   rw [if_neg (show ¬ ((2 + n : Nat) : Int) = 0 by omega)]
   rfl
  unfold Wl.twoBay Bay.new
  rw [List.map_cons, List.map_cons, e]
  rfl
 obtain ⟨d', _, h2, _, _⟩ := Wl.fmt_up (s := 0) (d := Dk.new (2 + n)) (B := 3) (n := n) (ep := 1) (Wl.two_up n 0 (.inl rfl)) n5 n2 (by show 2 + n ≤ (List.replicate (2 + n) (List.replicate 128 0)).length; rw [List.length_replicate]; omega) (by decide) ⟨by decide, by decide⟩
 have c := Calm.fmt (Wl.twoBay n) 0 n 1
 have hu := Wl.two_up n 1 (.inr rfl)
 exact ⟨c.none (by unfold NoCome; rw [e2]; rfl), c.none (by unfold NoCome; rw [e2]; rfl), (h2.other 1 (by decide)).trans hu.dev, hu.bad, h2.up.dark, h2.up.trip⟩

theorem Wl.call_ok {y : Bay} {J : Wl.Jn} {d : Dk} {B : Nat} {a : WOpD} (h : Wl.Ok y J d B) (hb : ∀ p ∈ a.pts, By p.d) : (∃ d', Wl.Ok (Wl.callJ y J a).bay (Wl.callJ y J a).jn d' (B + 1)) ∧ (Wl.callJ y J a).jn.slot = J.slot ∧ (Wl.callJ y J a).jn.S = J.S := by
 unfold Wl.callJ
 split
 ·have c := h.logCosts (e := scErr J.ep J.next a.pts) (l := a.pts.map pdOf) (fun q => (scErr_zero q hb).2.1)
  exact ⟨c.ok, c.slot, c.size⟩
 split
 ·exact ⟨h.sealCosts.ok, h.sealCosts.slot, h.sealCosts.size⟩
 split
 ·exact ⟨h.syncCosts.2.ok, h.syncCosts.2.slot, h.syncCosts.2.size⟩
 split
 ·have c := h.passCosts J.ep (Nat.le_succ_of_le h.ep)
  exact ⟨c.ok, c.slot, c.size⟩
 split
 ·have c := h.passCosts (J.ep + 1) (by have := h.ep; omega)
  exact ⟨c.ok, c.slot, c.size⟩
 ·exact ⟨⟨d, h.more⟩, rfl, rfl⟩

end Go.Proofs.YtkafkdlgflkjgaaGreat

/-
  What a journal's disk has in its cache, and what a cut leaves. No function of the program is named here. By an AI agent.
-/
namespace Go.Proofs.YtkafkdlgflkjgaaGreat
open Crc
namespace Wl

/-- In the cache is nothing, or the last seal alone; so many batches are sure. -/
def Dur (d : Dk) (J : Jn) (L : List (List Pd)) (sr : Nat) : Prop :=
 (d.cache = [] ∧ sr ≤ L.length) ∨
 (J.commit = none ∧ J.sure = false ∧ ∃ w J0 L0 l, d.cache = [w] ∧ L = L0 ++ [l] ∧ sr ≤ L0.length ∧ Keeps { d with cache := [] } J0 L0 (some l) ∧ J0.S = J.S ∧ J0.t < J0.S ∧ J0.u ≤ J0.S ∧ J0.next + 1 = J.next ∧ J0.ep = J.ep ∧ J0.t = J.t ∧ J0.u ≤ J.u)

theorem Dur.call {y : Bay} {J : Jn} {d : Dk} {B : Nat} {L : List (List Pd)} {G : Option (List Pd)} {sr : Nat} {a : WOpD} (ok : Ok y J d B) (h : Keeps d J L G) (u : Dur d J L sr) (hb : ∀ p ∈ a.pts, By p.d) (hk : a.kind < 4) :
 ∃ d', (callJ y J a).bay.Up J.slot d' ∧ Dur d' (callJ y J a).jn (after a (callJ y J a).err L G).1 (if (callJ y J a).err = 0 ∧ (a.kind = 1 ∨ a.kind = 3) then L.length else sr) := by
 have same : ∀ e : Int, e ≠ 0 → ∃ d', y.Up J.slot d' ∧ Dur d' J (after a e L G).1 (if e = 0 ∧ (a.kind = 1 ∨ a.kind = 3) then L.length else sr) := fun e he => by
  have ea : after a e L G = (L, G) := by unfold after; rw [if_pos he]
  rw [ea, if_neg (fun q => he q.1)]
  exact ⟨d, ok.up, u⟩
 by_cases k1 : a.kind = 1
 ·have e : callJ y J a = logJ y J (scErr J.ep J.next a.pts) (a.pts.map pdOf) := by unfold callJ; rw [if_pos k1]
  rw [e]
  by_cases h0 : logErr J (scErr J.ep J.next a.pts) (a.pts.map pdOf).length = 0
  case neg =>
   rw [ok.log_no h0]
   exact same _ h0
  have he : scErr J.ep J.next a.pts = 0 := by
   by_cases q : scErr J.ep J.next a.pts = 0
   ·exact q
   ·unfold logErr at h0
    rw [if_neg (fun k => k ok.br), if_pos q] at h0
    exact h0
  have hg := (scErr_zero he hb).2.1
  rw [he] at h0 ⊢
  obtain ⟨d', h1, h2, _, h4, h5⟩ := ok.log hg h0
  have ea : after a (logJ y J 0 (a.pts.map pdOf)).err L G = (L, some (a.pts.map pdOf)) := by unfold after; rw [if_neg (fun q => q h1), if_pos k1]
  rw [ea, if_pos ⟨h1, .inl k1⟩]
  exact ⟨d', h4.up, .inl ⟨by rw [h5], Nat.le_refl _⟩⟩
 by_cases k2 : a.kind = 2
 ·have e : callJ y J a = sealJ y J := by unfold callJ; rw [if_neg k1, if_pos k2]
  rw [e]
  rcases ok.sealing with ⟨_, q⟩ | ⟨c, d', hc, h1, h2, h3, h4, h5⟩
  ·rw [q]
   exact same 1 (by decide)
  ·cases hG : G with
   | none => rw [h.com, hG] at hc; cases hc
   | some l =>
     subst hG
     have ea : after a (sealJ y J).err L (some l) = (L ++ [l], none) := by unfold after; rw [if_neg (fun q => q h1), if_neg k1, if_pos k2]; rfl
     rw [ea, if_neg (by omega), h2]
     rcases u with ⟨u1, u2⟩ | ⟨u1, _⟩
     ·refine ⟨d', h4.up, .inr ⟨rfl, rfl, _, J, L, l, by rw [h5, u1]; rfl, rfl, u2, ?_, rfl, ok.tail, ok.used, rfl, rfl, rfl, Nat.le_add_right _ _⟩⟩
      have ed : ({ d' with cache := [] } : Dk) = d := by
       rw [h5]
       cases d
       simp only at u1
       subst u1
       rfl
      rw [ed]
      exact h
     ·rw [hc] at u1; cases u1
 by_cases k3 : a.kind = 3
 ·have e : callJ y J a = syncJ y J := by unfold callJ; rw [if_neg k1, if_neg k2, if_pos k3]
  rw [e]
  have ea : after a (syncJ y J).err L G = (L, G) := by
   unfold after
   split
   ·rfl
   ·first | rw [if_neg (show ¬ (a.kind = 4 ∨ a.kind = 5) by omega)] | rw [if_neg k1, if_neg k2, if_neg (show ¬ (a.kind = 4 ∨ a.kind = 5) by omega)]
  rw [ea]
  rcases ok.syncing with ⟨hs, q⟩ | ⟨d', hs, h1, h2, h3, h4, h5⟩
  ·rw [q, if_pos ⟨rfl, .inr k3⟩]
   rcases u with ⟨u1, _⟩ | ⟨_, u2, _⟩
   ·exact ⟨d, ok.up, .inl ⟨u1, Nat.le_refl _⟩⟩
   ·rw [hs] at u2; cases u2
  ·rw [if_pos ⟨h1, .inr k3⟩]
   exact ⟨d', h4.up, .inl ⟨by rw [h5], Nat.le_refl _⟩⟩
 ·have e : callJ y J a = ⟨0, y, J⟩ := by unfold callJ; rw [if_neg k1, if_neg k2, if_neg k3, if_neg (by omega), if_neg (by omega)]
  rw [e]
  have ea : after a 0 L G = (L, G) := by unfold after; rw [if_neg (by decide), if_neg k1, if_neg k2, if_neg (by omega)]
  show ∃ d', y.Up J.slot d' ∧ Dur d' J (after a 0 L G).1 (if (0 : Int) = 0 ∧ (a.kind = 1 ∨ a.kind = 3) then L.length else sr)
  rw [ea, if_neg (by omega)]
  exact ⟨d, ok.up, u⟩

/-- Behind a cut. -/
theorem Dur.cut {y : Bay} {J : Jn} {d : Dk} {B : Nat} {L : List (List Pd)} {G : Option (List Pd)} {sr : Nat} (ok : Ok y J d B) (hB : B ≤ 4611686018427387904) (h : Keeps d J L G) (u : Dur d J L sr) (keep : List Bool) :
 ∃ Jf Lf Gf, Keeps ({ d with last := (Dk.kept keep 0 d.cache).foldl Dk.lay d.last, cache := [] } : Dk) Jf Lf Gf ∧ Lf = L.take Lf.length ∧ sr ≤ Lf.length ∧ Lf.length ≤ L.length ∧ Jf.next - Lf.length = J.next - L.length ∧ Lf.length ≤ Jf.next ∧ Jf.S = J.S ∧ Jf.t < Jf.S ∧ Jf.u ≤ Jf.S ∧ numsOk Jf.ep Jf.next ∧ Jf.next ≤ J.next ∧ Jf.ep = J.ep := by
 have hn : numsOk J.ep J.next := ⟨Nat.le_trans ok.ep hB, by have := h.nx; omega, Nat.le_trans ok.next hB⟩
 have hx := h.nx
 rcases u with ⟨u1, u2⟩ | ⟨_, _, w, J0, L0, l, u1, u2, u3, u4, u5, u6, u7, u8, u9, _, _⟩
 ·have ed : ({ d with last := (Dk.kept keep 0 d.cache).foldl Dk.lay d.last, cache := [] } : Dk) = d := by
   rw [u1]
   cases d
   simp only at u1
   subst u1
   rfl
  rw [ed]
  exact ⟨J, L, G, h, (List.take_length).symm, u2, Nat.le_refl _, rfl, by omega, rfl, ok.tail, ok.used, hn, Nat.le_refl _, rfl⟩
 ·by_cases q : keep.getD 0 false = true
  ·have ed : ({ d with last := (Dk.kept keep 0 d.cache).foldl Dk.lay d.last, cache := [] } : Dk) = { d with last := (d.cache ++ []).foldl Dk.lay d.last, cache := [] } := by
    have : Dk.kept keep 0 d.cache = d.cache := by rw [u1]; unfold Dk.kept; rw [if_pos q]; rfl
    rw [this, List.append_nil]
   rw [ed]
   refine ⟨J, L, G, h.moved (by have := ok.lo; omega) (fun k hk => ?_), (List.take_length).symm, by rw [u2, List.length_append, List.length_singleton]; omega, Nat.le_refl _, rfl, by omega, rfl, ok.tail, ok.used, hn, Nat.le_refl _, rfl⟩
   rw [now_flushed rfl (by have := ok.size; omega)]
   rfl
  ·have ed : ({ d with last := (Dk.kept keep 0 d.cache).foldl Dk.lay d.last, cache := [] } : Dk) = { d with cache := [] } := by
    have : Dk.kept keep 0 d.cache = [] := by rw [u1]; unfold Dk.kept; rw [if_neg q]; rfl
    rw [this]
    rfl
   rw [ed]
   have h4 := u4.nx
   have e1 : L.length = L0.length + 1 := by rw [u2, List.length_append, List.length_singleton]
   refine ⟨J0, L0, some l, u4, by rw [u2, List.take_left], u3, by omega, by omega, by omega, u5, u6, u7, ⟨by rw [u9]; exact hn.1, by omega, by have := hn.2.2; omega⟩, by omega, u9⟩


/-- A checkpoint, when all is sure. -/
theorem Keeps.fresh {y : Bay} {J : Jn} {d : Dk} {B : Nat} {L : List (List Pd)} {G : Option (List Pd)} (ok : Ok y J d B) (hB : B ≤ 4611686018427387000) (h : Keeps d J L G) (hs : J.sure = true) {ep : Nat} (hep : ep = J.ep ∨ ep = J.ep + 1) :
 (passJ y J ep).err = 0 ∧ ∃ d', Ok (passJ y J ep).bay (passJ y J ep).jn d' (B + 1) ∧ Keeps d' (passJ y J ep).jn [] none ∧ Dur d' (passJ y J ep).jn [] 0 ∧ (passJ y J ep).jn.slot = J.slot ∧ (passJ y J ep).jn.S = J.S ∧ (passJ y J ep).jn.next = J.next := by
 have h1 := ok.ep
 have h2 := ok.next
 have h3 := h.nx
 have h4 : J.head < J.S := Nat.mod_lt _ (by have := ok.lo; omega)
 have h5 := ok.hi
 have hok : Ck.Ok ⟨ep, J.next, (J.head : Nat)⟩ := ⟨⟨by show ep ≤ 4611686018427387904; omega, by show 1 ≤ J.next; omega, by show J.next ≤ 4611686018427387904; omega⟩, by show (0 : Int) ≤ (J.head : Nat); omega, by show ((J.head : Nat) : Int) ≤ 2047; omega⟩
 obtain ⟨e1, e2, e3⟩ := ok.passing_ok ep hs hok
 rcases ok.passing ep (by omega) with ⟨q, _⟩ | ⟨d', _, _, _, q2, q3, q4, q5⟩
 ·exact absurd e1 q
 ·refine ⟨e1, d', by rw [q2]; exact q3, by rw [q2]; exact h.passing ok.lo ok.size hep hok q5, .inl ⟨by rw [q5], Nat.le_refl _⟩, by rw [q2]; rfl, by rw [q2]; rfl, by rw [q2]; rfl⟩

end Wl
end Go.Proofs.YtkafkdlgflkjgaaGreat

/-
  What a journal's calls come to on a disk that answers, when the power may go at any operation. No function of the program is named here. By an AI agent.
-/
namespace Go.Proofs.YtkafkdlgflkjgaaGreat
open Crc

/-- The same bay, the power going in so many operations. -/
def Bay.timed (y : Bay) (t : Option Nat) : Bay := { y with trip := t }

/-- The same bay without power. -/
def Bay.fell (y : Bay) : Bay := { y with dark := true }

namespace Bay

theorem Up.timed_zero {y : Bay} {s : Int} {d : Dk} (h : y.Up s d) (what : Nat) : (y.timed (some 0)).startErr s = 50 ∧ (y.timed (some 0)).start s what = y.fell := by
 have h0 : ¬ (y.timed (some 0)).is s = false := by
  have := h.is
  show ¬ y.is s = false
  rw [this]
  simp
 have h1 : ¬ (y.timed (some 0)).dark = true := by
  show ¬ y.dark = true
  rw [h.dark]
  simp
 have h2 : (y.timed (some 0)).trip = some 0 := rfl
 unfold startErr Bay.start
 rw [if_neg h0, if_neg h0, if_neg h1, if_neg h1, if_pos h2, if_pos h2]
 refine ⟨rfl, ?_⟩
 have h3 := h.trip
 cases y
 simp only at h3
 subst h3
 rfl

theorem Up.timed_more {y : Bay} {s : Int} {d : Dk} (h : y.Up s d) {t : Option Nat} (ht : t ≠ some 0) : (y.timed t).startErr s = 0 ∧ (y.timed t).asked s = ⟨d, none⟩ := by
 have h0 : ¬ (y.timed t).is s = false := by
  have := h.is
  show ¬ y.is s = false
  rw [this]
  simp
 have h1 : ¬ (y.timed t).dark = true := by
  show ¬ y.dark = true
  rw [h.dark]
  simp
 have h2 : ¬ (y.timed t).trip = some 0 := ht
 have h3 : (y.timed t).dev s = some ⟨d, none⟩ := h.dev
 unfold startErr asked
 rw [if_neg h0, if_neg h1, if_neg h2, h3]
 exact ⟨rfl, rfl⟩

theorem Up.write_timed {y : Bay} {s : Int} {d : Dk} (h : y.Up s d) (t : Option Nat) (p : Int) (x : List Nat) :
 (y.timed t).writeErr s p x = 50 ∧ (y.timed t).write s p x = y.fell ∨ ∃ t', (y.timed t).writeErr s p x = y.writeErr s p x ∧ (y.timed t).write s p x = (y.write s p x).timed t' := by
 by_cases ht : t = some 0
 ·subst ht
  obtain ⟨h1, h2⟩ := h.timed_zero 2
  left
  unfold writeErr Bay.write
  rw [if_neg (by rw [h1]; decide), if_neg (by rw [h1]; decide), h1, h2]
  exact ⟨rfl, rfl⟩
 ·obtain ⟨h1, h2⟩ := h.timed_more ht
  obtain ⟨k1, _, k2⟩ := h.start 2
  right
  unfold writeErr Bay.write
  rw [if_pos h1, if_pos h1, if_pos k1, if_pos k1, h2, k2]
  exact ⟨t.map (· - 1), rfl, rfl⟩

theorem Up.flush_timed {y : Bay} {s : Int} {d : Dk} (h : y.Up s d) (t : Option Nat) :
 (y.timed t).flushErr s = 50 ∧ (y.timed t).flush s = y.fell ∨ ∃ t', (y.timed t).flushErr s = y.flushErr s ∧ (y.timed t).flush s = (y.flush s).timed t' := by
 by_cases ht : t = some 0
 ·subst ht
  obtain ⟨h1, h2⟩ := h.timed_zero 3
  left
  unfold flushErr Bay.flush
  rw [if_neg (by rw [h1]; decide), if_neg (by rw [h1]; decide), h1, h2]
  exact ⟨rfl, rfl⟩
 ·obtain ⟨h1, h2⟩ := h.timed_more ht
  obtain ⟨k1, _, k2⟩ := h.start 3
  right
  unfold flushErr Bay.flush
  rw [if_pos h1, if_pos h1, if_pos k1, if_pos k1, h2, k2]
  exact ⟨t.map (· - 1), rfl, rfl⟩

end Bay

namespace Wl

theorem wr_timed {y : Bay} {s : Int} {d : Dk} (h : y.Up s d) (t : Option Nat) (p : Int) (x : List Nat) :
 wr s (y.timed t, 0) p x = (y.fell, 50) ∨ ∃ t', wr s (y.timed t, 0) p x = ((wr s (y, 0) p x).1.timed t', (wr s (y, 0) p x).2) := by
 unfold wr
 rw [if_pos rfl, if_pos rfl]
 rcases h.write_timed t p x with ⟨h1, h2⟩ | ⟨t', h1, h2⟩
 ·left
  show ((y.timed t).write s p x, (y.timed t).writeErr s p x) = _
  rw [h1, h2]
 ·right
  refine ⟨t', ?_⟩
  show ((y.timed t).write s p x, (y.timed t).writeErr s p x) = _
  rw [h1, h2]

theorem fl_timed {y : Bay} {s : Int} {d : Dk} (h : y.Up s d) (t : Option Nat) :
 fl s (y.timed t, 0) = (y.fell, 50) ∨ ∃ t', fl s (y.timed t, 0) = ((fl s (y, 0)).1.timed t', (fl s (y, 0)).2) := by
 unfold fl
 rw [if_pos rfl, if_pos rfl]
 rcases h.flush_timed t with ⟨h1, h2⟩ | ⟨t', h1, h2⟩
 ·left
  show ((y.timed t).flush s, (y.timed t).flushErr s) = _
  rw [h1, h2]
 ·right
  refine ⟨t', ?_⟩
  show ((y.timed t).flush s, (y.timed t).flushErr s) = _
  rw [h1, h2]

/-- Writes one behind the other: the power goes behind some of them, or in none. -/
theorem wrs_timed {s : Int} : ∀ (ws : List (Nat × List Nat)) {y : Bay} {d : Dk}, y.Up s d → (∀ w ∈ ws, w.1 < d.last.length ∧ w.2.length = 128) → ∀ t : Option Nat,
 (∃ k, k < ws.length ∧ wrs s (y.timed t, 0) ws = ((wrs s (y, 0) (ws.take k)).1.fell, 50)) ∨ ∃ t', wrs s (y.timed t, 0) ws = ((wrs s (y, 0) ws).1.timed t', 0)
 | [], _, _, _, _, t => .inr ⟨t, rfl⟩
 | w :: ws, y, d, h, hw, t => by
   obtain ⟨h1, h2⟩ := h.write (hw w List.mem_cons_self).1 (hw w List.mem_cons_self).2
   have e : wr s (y, 0) (w.1 : Int) w.2 = (y.write s w.1 w.2, 0) := by unfold wr; rw [if_pos rfl, h1]
   have c : ∀ (st : Io) (l : List (Nat × List Nat)), wrs s st (w :: l) = wrs s (wr s st (w.1 : Int) w.2) l := fun _ _ => rfl
   rcases wr_timed h t (w.1 : Int) w.2 with q | ⟨t', q⟩
   ·left
    refine ⟨0, Nat.succ_pos _, ?_⟩
    rw [c, q, wrs_io2 ws (by show (50 : Nat) ≠ 0; decide)]
    rfl
   ·rw [e] at q
    rcases wrs_timed ws (d := { d with cache := d.cache ++ [(w.1, w.2)] }) h2.up (fun v hv => hw v (List.mem_cons_of_mem _ hv)) t' with ⟨k, hk, r⟩ | ⟨t2, r⟩
    ·left
     refine ⟨k + 1, Nat.succ_lt_succ hk, ?_⟩
     rw [c, q, r, List.take_succ_cons, c, e]
    ·right
     refine ⟨t2, ?_⟩
     rw [c, q, r, c, e]

/-- What a call leaves on the disk when the power goes in it. -/
inductive Mid (J : Jn) (d : Dk) (a : WOpD) : Dk → Prop
 | log (k : Nat) (h : a.kind = 1) (he : logErr J (scErr J.ep J.next a.pts) (a.pts.map pdOf).length = 0) : Mid J d a { d with cache := d.cache ++ (J.puts (body J (a.pts.map pdOf))).take k }
 | same (h : a.kind = 1 ∨ a.kind = 2 ∨ a.kind = 3 ∨ a.kind = 4 ∨ a.kind = 5) : Mid J d a d
 | pass (ep : Nat) (h : a.kind = 4 ∧ ep = J.ep ∨ a.kind = 5 ∧ ep = J.ep + 1) (hs : J.sure = true) (hok : Ck.Ok ⟨ep, J.next, (J.head : Nat)⟩) : Mid J d a { d with cache := d.cache ++ [(1, Ck.enc ⟨ep, J.next, (J.head : Nat)⟩)] }

theorem ends_fell (yd : Bay) (J J' : Jn) : ends (yd.fell, 50) J J' = ⟨50, yd.fell, J.broke 50⟩ := by
 unfold ends
 rw [if_neg (show ¬ ((yd.fell, 50) : Io).2 = 0 by show ¬ (50 : Nat) = 0; decide)]
 rfl

theorem ends_timed (y : Bay) (e : Nat) (t : Option Nat) (J J' : Jn) : ends (y.timed t, e) J J' = ⟨(ends (y, e) J J').err, (ends (y, e) J J').bay.timed t, (ends (y, e) J J').jn⟩ := by
 unfold ends
 by_cases h : e = 0
 ·rw [if_pos (show ((y.timed t, e) : Io).2 = 0 from h), if_pos (show ((y, e) : Io).2 = 0 from h)]
 ·rw [if_neg (show ¬ ((y.timed t, e) : Io).2 = 0 from h), if_neg (show ¬ ((y, e) : Io).2 = 0 from h)]

theorem fl_dead (s : Int) (y : Bay) : fl s (y, 50) = (y, 50) := by
 unfold fl
 rw [if_neg (show ¬ (50 : Nat) = 0 by decide)]

/-- A call, the power going at any operation: it goes in the call, or the call is done as if it did not. -/
theorem Ok.timed {y : Bay} {J : Jn} {d : Dk} {B : Nat} (h : Ok y J d B) {a : WOpD} (hb : ∀ p ∈ a.pts, By p.d) (t : Option Nat) :
 (∃ (yd : Bay) (d' : Dk), callJ (y.timed t) J a = ⟨50, yd.fell, J.broke 50⟩ ∧ yd.Up J.slot d' ∧ Mid J d a d') ∨ ∃ t', callJ (y.timed t) J a = ⟨(callJ y J a).err, (callJ y J a).bay.timed t', (callJ y J a).jn⟩ := by
 by_cases k1 : a.kind = 1
 ·have e : ∀ z, callJ z J a = logJ z J (scErr J.ep J.next a.pts) (a.pts.map pdOf) := fun z => by unfold callJ; rw [if_pos k1]
  rw [e, e]
  by_cases h0 : logErr J (scErr J.ep J.next a.pts) (a.pts.map pdOf).length = 0
  case neg =>
   right
   refine ⟨t, ?_⟩
   unfold logJ
   rw [if_pos h0, if_pos h0]
  have he : scErr J.ep J.next a.pts = 0 := by
   by_cases q : scErr J.ep J.next a.pts = 0
   ·exact q
   ·unfold logErr at h0
    rw [if_neg (fun k => k h.br), if_pos q] at h0
    exact h0
  have hg := (scErr_zero he hb).2.1
  have hw : ∀ w ∈ J.puts (body J (a.pts.map pdOf)), w.1 < d.last.length ∧ w.2.length = 128 := fun w hm => by
   obtain ⟨i, h1, h2⟩ := Jn.puts_mem hm
   have h3 := J.place_lt h.lo i
   have := h.size
   exact ⟨by omega, (Sc.secs_ok hg _ (List.mem_of_mem_take h2)).1⟩
  have hd : ∀ k, ∃ d', (wrs J.slot (y, 0) ((J.puts (body J (a.pts.map pdOf))).take k)).1.Up J.slot d' ∧ Mid J d a d' := fun k =>
   ⟨_, (wrs_up ((J.puts (body J (a.pts.map pdOf))).take k) h.up (fun w hm => hw w (List.mem_of_mem_take hm))).2.up, .log k k1 h0⟩
  have e1 : ∀ z, logJ z J (scErr J.ep J.next a.pts) (a.pts.map pdOf) = ends (fl J.slot (wrs J.slot (z, 0) (J.puts (body J (a.pts.map pdOf))))) J (logged J (a.pts.map pdOf)) := fun z => by
   unfold logJ logIo
   rw [if_neg (fun q => q h0), h.br]
  rw [e1, e1]
  rcases wrs_timed (J.puts (body J (a.pts.map pdOf))) h.up hw t with ⟨k, _, q⟩ | ⟨t', q⟩
  ·left
   obtain ⟨d', u1, u2⟩ := hd k
   refine ⟨_, d', ?_, u1, u2⟩
   rw [q, fl_dead, ends_fell]
  ·obtain ⟨a1, a2⟩ := wrs_up (J.puts (body J (a.pts.map pdOf))) h.up hw
   have e2 : wrs J.slot (y, 0) (J.puts (body J (a.pts.map pdOf))) = ((wrs J.slot (y, 0) (J.puts (body J (a.pts.map pdOf)))).1, 0) := Prod.ext rfl a1
   rcases fl_timed a2.up t' with r | ⟨t2, r⟩
   ·left
    obtain ⟨d', u1, u2⟩ := hd (J.puts (body J (a.pts.map pdOf))).length
    rw [List.take_length] at u1
    refine ⟨_, d', ?_, u1, u2⟩
    rw [q, r, ends_fell]
   ·right
    refine ⟨t2, ?_⟩
    rw [q, r, ends_timed, ← e2]
 by_cases k2 : a.kind = 2
 ·have e : ∀ z, callJ z J a = sealJ z J := fun z => by unfold callJ; rw [if_neg k1, if_pos k2]
  rw [e, e]
  cases hc : J.commit with
  | none =>
    right
    refine ⟨t, ?_⟩
    have hr : ¬ J.br ≠ 0 := fun q => q h.br
    unfold sealJ
    rw [if_neg hr, if_neg hr, hc]
  | some c =>
    have e1 : ∀ z, sealJ z J = ends (wr J.slot (z, 0) (J.place (J.cost - 1) : Nat) c) J (sealed J) := fun z => by
     unfold sealJ
     rw [if_neg (fun q => q h.br), hc, h.br]
    rw [e1, e1]
    rcases wr_timed h.up t (J.place (J.cost - 1) : Nat) c with q | ⟨t', q⟩
    ·left
     refine ⟨y, d, ?_, h.up, .same (.inr (.inl k2))⟩
     rw [q, ends_fell]
    ·right
     refine ⟨t', ?_⟩
     rw [q, ends_timed]
 by_cases k3 : a.kind = 3
 ·have e : ∀ z, callJ z J a = syncJ z J := fun z => by unfold callJ; rw [if_neg k1, if_neg k2, if_pos k3]
  rw [e, e]
  cases hs : J.sure with
  | true =>
    right
    refine ⟨t, ?_⟩
    unfold syncJ
    rw [if_pos hs, if_pos hs]
  | false =>
    have e1 : ∀ z, syncJ z J = ends (fl J.slot (z, 0)) J { J with sure := true } := fun z => by
     unfold syncJ
     rw [if_neg (by rw [hs]; decide), h.br]
    rw [e1, e1]
    rcases fl_timed h.up t with q | ⟨t', q⟩
    ·left
     refine ⟨y, d, ?_, h.up, .same (.inr (.inr (.inl k3)))⟩
     rw [q, ends_fell]
    ·right
     refine ⟨t', ?_⟩
     rw [q, ends_timed]
 have hpass : ∀ ep, (a.kind = 4 ∧ ep = J.ep ∨ a.kind = 5 ∧ ep = J.ep + 1) → (∃ (yd : Bay) (d' : Dk), passJ (y.timed t) J ep = ⟨50, yd.fell, J.broke 50⟩ ∧ yd.Up J.slot d' ∧ Mid J d a d') ∨ ∃ t', passJ (y.timed t) J ep = ⟨(passJ y J ep).err, (passJ y J ep).bay.timed t', (passJ y J ep).jn⟩ := fun ep hep => by
  cases hs : J.sure with
  | false =>
    right
    refine ⟨t, ?_⟩
    have hr : ¬ J.br ≠ 0 := fun q => q h.br
    unfold passJ
    rw [if_neg hr, if_neg hr, if_pos hs, if_pos hs]
  | true =>
    by_cases hok : Ck.Ok ⟨ep, J.next, (J.head : Nat)⟩
    case neg =>
     right
     refine ⟨t, ?_⟩
     have he : Ck.err ⟨ep, J.next, (J.head : Nat)⟩ = 80 := by unfold Ck.err; rw [if_neg hok]
     have hn : ¬ J.sure = false := by rw [hs]; decide
     have hr : ¬ J.br ≠ 0 := fun q => q h.br
     unfold passJ
     rw [if_neg hr, if_neg hr, if_neg hn, if_neg hn, he, if_pos (by decide), if_pos (by decide)]
    have he : Ck.err ⟨ep, J.next, (J.head : Nat)⟩ = 0 := by unfold Ck.err; rw [if_pos hok]
    have e1 : ∀ z, passJ z J ep = ends (fl J.slot (wr J.slot (z, 0) 1 (Ck.enc ⟨ep, J.next, (J.head : Nat)⟩))) J (passed J ep) := fun z => by
     unfold passJ passIo
     rw [if_neg (fun q => q h.br), if_neg (by rw [hs]; decide), if_neg (by rw [he]; exact fun q => q rfl), h.br]
    have hlen : (Ck.enc ⟨ep, J.next, (J.head : Nat)⟩).length = 128 := by
     unfold Ck.enc
     rw [if_pos hok]
     exact Rec.sector_length (by show (1 : Nat) ≤ 25; decide)
    have hz := h.size
    obtain ⟨w1, w2⟩ := h.up.write (p := 1) (x := Ck.enc ⟨ep, J.next, (J.head : Nat)⟩) (by omega) hlen
    have e2 : wr J.slot (y, 0) 1 (Ck.enc ⟨ep, J.next, (J.head : Nat)⟩) = (y.write J.slot ((1 : Nat) : Int) (Ck.enc ⟨ep, J.next, (J.head : Nat)⟩), 0) := by
     unfold wr
     rw [if_pos rfl]
     exact Prod.ext rfl w1
    rw [e1, e1]
    rcases wr_timed h.up t 1 (Ck.enc ⟨ep, J.next, (J.head : Nat)⟩) with q | ⟨t', q⟩
    ·left
     refine ⟨y, d, ?_, h.up, .same (.inr (.inr (.inr (by omega))))⟩
     rw [q, fl_dead, ends_fell]
    ·rw [e2] at q ⊢
     rcases fl_timed w2.up t' with r | ⟨t2, r⟩
     ·left
      refine ⟨_, _, ?_, w2.up, .pass ep hep hs hok⟩
      rw [q, r, ends_fell]
     ·right
      refine ⟨t2, ?_⟩
      rw [q, r, ends_timed]
 by_cases k4 : a.kind = 4
 ·have e : ∀ z, callJ z J a = passJ z J J.ep := fun z => by unfold callJ; rw [if_neg k1, if_neg k2, if_neg k3, if_pos k4]
  rw [e, e]
  exact hpass J.ep (.inl ⟨k4, rfl⟩)
 by_cases k5 : a.kind = 5
 ·have e : ∀ z, callJ z J a = passJ z J (J.ep + 1) := fun z => by unfold callJ; rw [if_neg k1, if_neg k2, if_neg k3, if_neg k4, if_pos k5]
  rw [e, e]
  exact hpass (J.ep + 1) (.inr ⟨k5, rfl⟩)
 ·right
  refine ⟨t, ?_⟩
  have e : ∀ z, callJ z J a = ⟨0, z, J⟩ := fun z => by unfold callJ; rw [if_neg k1, if_neg k2, if_neg k3, if_neg k4, if_neg k5]
  rw [e, e]

end Wl
end Go.Proofs.YtkafkdlgflkjgaaGreat

/-
  What a cut leaves of a journal's disk when the power has gone in a call. No function of the program is named here. By an AI agent.
-/
namespace Go.Proofs.YtkafkdlgflkjgaaGreat
open Crc
namespace Wl

/-- Sectors that are no commits come behind what is used. -/
theorem Keeps.spoil {d d' : Dk} {J : Jn} {L : List (List Pd)} {G : Option (List Pd)} {ws : List (Nat × List Nat)} (h : Keeps d J L G) (hS : 5 ≤ J.S)
 (hw : ∀ w ∈ ws, w.2.length = 128 ∧ Bs w.2 ∧ Cm.derr w.2 ≠ 0 ∧ ∃ i, J.u ≤ i ∧ i < J.S ∧ w.1 = spot J i)
 (e : ∀ k, k < 2 + J.S → d'.now k = Dk.over k (d.now k) ws) : Keeps d' { J with commit := none } L none := by
 refine ⟨fun p hp => ?_, ?_, h.cok, h.good, h.nx, h.used, fun j s hj => ?_, fun p hp hd => ?_, rfl, fun l' hl' => by cases hl'⟩
 ·have hp : p < J.S := hp
  rw [e _ (by omega)]
  rcases over_or (k := 2 + p) ws (d.now (2 + p)) with q | ⟨w, hm, _, q⟩
  ·rw [q]; exact h.bytes p hp
  ·rw [q]; exact ⟨(hw w hm).1, (hw w hm).2.1⟩
 ·rw [e 1 (by omega), over_miss (fun w hm q => by
   obtain ⟨i, _, _, hi⟩ := (hw w hm).2.2.2
   have := (spot_lt (J := J) (by omega) i).1
   omega)]
  exact h.ck
 ·have hju : j < J.u := by rw [h.used]; exact (List.getElem?_eq_some_iff.1 hj).1
  show d'.now (spot J j) = s
  rw [e _ (spot_lt (by omega) _).2, over_miss (fun w hm q => by
   obtain ⟨i, h1, h2, hi⟩ := (hw w hm).2.2.2
   rw [hi] at q
   have := spot_inj h2 (by omega) q
   omega)]
  exact h.laid j s hj
 ·have hp : p < J.S := hp
  rw [e _ (by omega)] at hd ⊢
  rcases over_or (k := 2 + p) ws (d.now (2 + p)) with q | ⟨w, hm, _, q⟩
  ·rw [q] at hd ⊢; exact h.free p hp hd
  ·rw [q] at hd
   exact absurd hd (hw w hm).2.2.1

theorem kept_app (keep : List Bool) : ∀ (i : Nat) (l r : List (Nat × List Nat)), Dk.kept keep i (l ++ r) = Dk.kept keep i l ++ Dk.kept keep (i + l.length) r
 | _, [], _ => rfl
 | i, w :: l, r => by
   have e : ∀ m, Dk.kept keep i (w :: m) = if keep.getD i false = true then w :: Dk.kept keep (i + 1) m else Dk.kept keep (i + 1) m := fun m => by rw [Dk.kept]
   rw [List.cons_append, e, e, kept_app keep (i + 1) l r, List.length_cons, show i + 1 + l.length = i + (l.length + 1) by omega]
   split <;> rfl

/-- The body's sectors, wherever they go. -/
theorem body_put {J : Jn} {l : List Pd} {w : Nat × List Nat} (hg : Sc.Good l) (hfit : J.u + (2 * l.length + 1) ≤ J.S) (hw : w ∈ J.puts (body J l)) : w.2.length = 128 ∧ Bs w.2 ∧ Cm.derr w.2 ≠ 0 ∧ ∃ i, J.u ≤ i ∧ i < J.S ∧ w.1 = spot J i := by
 obtain ⟨i, h1, h2, h3⟩ := puts_is hw
 rw [body_len] at h1
 rw [body_at h1] at h2
 obtain ⟨a, b⟩ := Sc.secs_ok (ep := J.ep) (sq := J.next) hg _ (List.mem_of_getElem? h2)
 exact ⟨a, b, body_not hg h1 h2, J.u + i, by omega, by omega, h3⟩

/-- What is found behind a cut, of what was there, and what is known of the ring then. -/
structure Left (d : Dk) (J : Jn) (L : List (List Pd)) (sr : Nat) (gone : Prop) (Jf : Jn) (Lf : List (List Pd)) (Gf : Option (List Pd)) : Prop where
 keeps : Keeps d Jf Lf Gf
 part : (Lf = L.take Lf.length ∧ sr ≤ Lf.length ∧ Lf.length ≤ L.length) ∨ (gone ∧ Lf = [])
 size : Jf.S = J.S
 tail : Jf.t < Jf.S
 used : Jf.u ≤ Jf.S
 nums : numsOk Jf.ep Jf.next
 next : Jf.next ≤ J.next
 less : Lf.length ≤ Jf.next
 ep : Jf.ep ≤ J.ep + 1
 good : ∀ l ∈ Lf, Sc.Good l

theorem Dur.left {y : Bay} {J : Jn} {d : Dk} {B : Nat} {L : List (List Pd)} {G : Option (List Pd)} {sr : Nat} (ok : Ok y J d B) (hB : B ≤ 4611686018427387904) (h : Keeps d J L G) (u : Dur d J L sr) (gone : Prop) (keep : List Bool) :
 ∃ Jf Lf Gf, Left ({ d with last := (Dk.kept keep 0 d.cache).foldl Dk.lay d.last, cache := [] } : Dk) J L sr gone Jf Lf Gf := by
 obtain ⟨Jf, Lf, Gf, a1, a2, a3, a4, _, a6, a7, a8, a9, a10, a11, a12⟩ := u.cut ok hB h keep
 exact ⟨Jf, Lf, Gf, a1, .inl ⟨a2, a3, a4⟩, a7, a8, a9, a10, a11, a6, by omega, a1.good⟩

/-- The power has gone in a call. -/
theorem Dur.mid {y : Bay} {J : Jn} {d d' : Dk} {B : Nat} {L : List (List Pd)} {G : Option (List Pd)} {sr : Nat} {a : WOpD} (ok : Ok y J d B) (hB : B ≤ 4611686018427387904) (h : Keeps d J L G) (u : Dur d J L sr) (hb : ∀ p ∈ a.pts, By p.d) (m : Mid J d a d') (keep : List Bool) :
 ∃ Jf Lf Gf, Left ({ d' with last := (Dk.kept keep 0 d'.cache).foldl Dk.lay d'.last, cache := [] } : Dk) J L sr (a.kind = 4 ∨ a.kind = 5) Jf Lf Gf := by
 have hn : numsOk J.ep J.next := ⟨Nat.le_trans ok.ep hB, by have := h.nx; omega, Nat.le_trans ok.next hB⟩
 have hx := h.nx
 have hz := ok.size
 cases m with
 | same _ => exact u.left ok hB h _ keep
 | pass ep hep hs hok =>
   rcases u with ⟨u1, u2⟩ | ⟨_, u2, _⟩
   ·by_cases q : keep.getD 0 false = true
    ·have ek : Dk.kept keep 0 (d.cache ++ [(1, Ck.enc ⟨ep, J.next, (J.head : Nat)⟩)]) = d.cache ++ [(1, Ck.enc ⟨ep, J.next, (J.head : Nat)⟩)] := by
      rw [u1]
      show Dk.kept keep 0 [_] = [_]
      unfold Dk.kept
      rw [if_pos q]
      rfl
     refine ⟨passed J ep, [], none, ?_, .inr ⟨by omega, rfl⟩, rfl, Nat.mod_lt _ (by have := ok.lo; omega), Nat.zero_le _, ⟨hok.1.1, hn.2.1, hn.2.2⟩, Nat.le_refl _, Nat.zero_le _, by show ep ≤ J.ep + 1; omega, fun l hl => by cases hl⟩
     refine h.passing ok.lo ok.size (by omega) hok ?_
     show ({ d with last := (Dk.kept keep 0 (d.cache ++ [(1, Ck.enc ⟨ep, J.next, (J.head : Nat)⟩)])).foldl Dk.lay d.last, cache := [] } : Dk) = _
     rw [ek]
    ·have ek : Dk.kept keep 0 (d.cache ++ [(1, Ck.enc ⟨ep, J.next, (J.head : Nat)⟩)]) = Dk.kept keep 0 d.cache := by
      rw [u1]
      show Dk.kept keep 0 [_] = []
      unfold Dk.kept
      rw [if_neg q]
      rfl
     have := (show Dur d J L sr from .inl ⟨u1, u2⟩).left ok hB h (a.kind = 4 ∨ a.kind = 5) keep
     show ∃ Jf Lf Gf, Left ({ d with last := (Dk.kept keep 0 (d.cache ++ [(1, Ck.enc ⟨ep, J.next, (J.head : Nat)⟩)])).foldl Dk.lay d.last, cache := [] } : Dk) J L sr (a.kind = 4 ∨ a.kind = 5) Jf Lf Gf
     rw [ek]
     exact this
   ·rw [hs] at u2; cases u2
 | log k hk h0 =>
   obtain ⟨ws, hws⟩ : ∃ ws, ws = (J.puts (body J (a.pts.map pdOf))).take k := ⟨_, rfl⟩
   rw [← hws]
   have he : scErr J.ep J.next a.pts = 0 := by
    by_cases q : scErr J.ep J.next a.pts = 0
    ·exact q
    ·unfold logErr at h0
     rw [if_neg (fun k => k ok.br), if_pos q] at h0
     exact h0
   have hg := (scErr_zero he hb).2.1
   have hfit : J.u + (2 * (a.pts.map pdOf).length + 1) ≤ J.S := by
    unfold logErr at h0
    rw [if_neg (fun q => q ok.br), he, if_neg (fun q => q rfl)] at h0
    split at h0
    ·cases h0
    ·split at h0
     ·cases h0
     ·have := ok.used
      omega
   have hw : ∀ i, ∀ w ∈ Dk.kept keep i ws, w.2.length = 128 ∧ Bs w.2 ∧ Cm.derr w.2 ≠ 0 ∧ ∃ i, J.u ≤ i ∧ i < J.S ∧ w.1 = spot J i := fun i w hm => by
    have := Dk.kept_sub keep i ws w hm
    rw [hws] at this
    exact body_put hg hfit (List.mem_of_mem_take this)
   show ∃ Jf Lf Gf, Left ({ d with last := (Dk.kept keep 0 (d.cache ++ ws)).foldl Dk.lay d.last, cache := [] } : Dk) J L sr (a.kind = 4 ∨ a.kind = 5) Jf Lf Gf
   rw [kept_app, List.foldl_append]
   rcases u with ⟨u1, u2⟩ | ⟨_, _, w, J0, L0, l, u1, u2, u3, u4, u5, u6, u7, u8, u9, u10, u11⟩
   ·refine ⟨_, L, none, h.spoil (ws := Dk.kept keep (0 + d.cache.length) ws) ok.lo (hw _) (fun k hk => ?_), .inl ⟨(List.take_length).symm, u2, Nat.le_refl _⟩, rfl, ok.tail, ok.used, hn, Nat.le_refl _, by show L.length ≤ J.next; omega, Nat.le_succ _, h.good⟩
    refine now_flushed (ws := Dk.kept keep (0 + d.cache.length) ws) ?_ (by omega)
    rw [u1]
    rfl
   ·have e1 : L.length = L0.length + 1 := by rw [u2, List.length_append, List.length_singleton]
    by_cases q : keep.getD 0 false = true
    ·have ek : Dk.kept keep 0 d.cache = d.cache := by rw [u1]; unfold Dk.kept; rw [if_pos q]; rfl
     rw [ek]
     refine ⟨_, L, none, h.spoil (ws := Dk.kept keep (0 + d.cache.length) ws) ok.lo (hw _) (fun k hk => ?_), .inl ⟨(List.take_length).symm, by omega, Nat.le_refl _⟩, rfl, ok.tail, ok.used, hn, Nat.le_refl _, by show L.length ≤ J.next; omega, Nat.le_succ _, h.good⟩
     refine now_flushed (ws := Dk.kept keep (0 + d.cache.length) ws) ?_ (by omega)
     rw [List.foldl_append]
    ·have ek : Dk.kept keep 0 d.cache = [] := by rw [u1]; unfold Dk.kept; rw [if_neg q]; rfl
     rw [ek]
     have h4 := u4.nx
     have hl := ok.lo
     refine ⟨_, L0, none, u4.spoil (ws := Dk.kept keep (0 + d.cache.length) ws) (by omega) (fun w hm => ?_) (fun k hk => ?_), .inl ⟨by rw [u2, List.take_left], u3, by omega⟩, u5, u6, u7, ⟨by show J0.ep ≤ _; rw [u9]; exact hn.1, by show 1 ≤ J0.next; omega, by show J0.next ≤ _; have := hn.2.2; omega⟩, by show J0.next ≤ J.next; omega, by show L0.length ≤ J0.next; omega, by show J0.ep ≤ J.ep + 1; omega, u4.good⟩
     ·obtain ⟨b1, b2, b3, i, b4, b5, b6⟩ := hw _ w hm
      refine ⟨b1, b2, b3, i, by omega, by omega, ?_⟩
      rw [b6]
      unfold spot
      rw [u5, u10]
     ·refine now_flushed (d := { d with cache := [] }) (ws := Dk.kept keep (0 + d.cache.length) ws) rfl (by show k < d.last.length; omega)

end Wl
end Go.Proofs.YtkafkdlgflkjgaaGreat

/-
  How a journal stands while the power may go, and what is known of it then. No function of the program is named here. By an AI agent.
-/
namespace Go.Proofs.YtkafkdlgflkjgaaGreat
open Crc
namespace Wl

/-- A disk behind a cut. -/
def cutD (d : Dk) (keep : List Bool) : Dk := { d with last := (Dk.kept keep 0 d.cache).foldl Dk.lay d.last, cache := [] }

/-- A call that is no checkpoint keeps what is sure; a checkpoint begins anew. -/
theorem Dur.every {y : Bay} {J : Jn} {d : Dk} {B : Nat} {L : List (List Pd)} {G : Option (List Pd)} {sr : Nat} {a : WOpD} (ok : Ok y J d B) (h : Keeps d J L G) (u : Dur d J L sr) (hb : ∀ p ∈ a.pts, By p.d) :
 ∃ d', (callJ y J a).bay.Up J.slot d' ∧ Dur d' (callJ y J a).jn (after a (callJ y J a).err L G).1 (if (callJ y J a).err = 0 ∧ (a.kind = 1 ∨ a.kind = 3) then L.length else if (callJ y J a).err = 0 ∧ (a.kind = 4 ∨ a.kind = 5) then 0 else sr) := by
 by_cases hk : a.kind < 4
 ·obtain ⟨d', h1, h2⟩ := Dur.call ok h u hb hk
  refine ⟨d', h1, ?_⟩
  rw [if_neg (show ¬ ((callJ y J a).err = 0 ∧ (a.kind = 4 ∨ a.kind = 5)) by omega)]
  exact h2
 have hpass : ∀ ep, ep ≤ B + 1 → (a.kind = 4 ∨ a.kind = 5) → ∃ d', (passJ y J ep).bay.Up J.slot d' ∧ Dur d' (passJ y J ep).jn (after a (passJ y J ep).err L G).1 (if (passJ y J ep).err = 0 ∧ (a.kind = 1 ∨ a.kind = 3) then L.length else if (passJ y J ep).err = 0 ∧ (a.kind = 4 ∨ a.kind = 5) then 0 else sr) := fun ep hep hk5 => by
  rcases ok.passing ep hep with ⟨q1, q2, q3⟩ | ⟨d', _, _, q1, q2, q3, q4, q5⟩
  ·have ea : after a (passJ y J ep).err L G = (L, G) := by unfold after; rw [if_pos q1]
   rw [q2, q3, ea, if_neg (fun q => q1 q.1), if_neg (fun q => q1 q.1)]
   exact ⟨d, ok.up, u⟩
  ·have ea : after a (passJ y J ep).err L G = ([], none) := by unfold after; rw [if_neg (fun q => q q1), if_neg (by omega), if_neg (by omega), if_pos hk5]
   rw [ea, if_neg (show ¬ ((passJ y J ep).err = 0 ∧ (a.kind = 1 ∨ a.kind = 3)) by omega), if_pos ⟨q1, hk5⟩]
   exact ⟨d', q4.up, .inl ⟨by rw [q5], Nat.le_refl _⟩⟩
 have he := ok.ep
 by_cases k4 : a.kind = 4
 ·have e : callJ y J a = passJ y J J.ep := by unfold callJ; rw [if_neg (by omega), if_neg (by omega), if_neg (by omega), if_pos k4]
  rw [e]
  exact hpass J.ep (by omega) (.inl k4)
 by_cases k5 : a.kind = 5
 ·have e : callJ y J a = passJ y J (J.ep + 1) := by unfold callJ; rw [if_neg (by omega), if_neg (by omega), if_neg (by omega), if_neg k4, if_pos k5]
  rw [e]
  exact hpass (J.ep + 1) (by omega) (.inr k5)
 ·have e : callJ y J a = ⟨0, y, J⟩ := by unfold callJ; rw [if_neg (by omega), if_neg (by omega), if_neg (by omega), if_neg k4, if_neg k5]
  have ea : after a 0 L G = (L, G) := by unfold after; rw [if_neg (by decide), if_neg (by omega), if_neg (by omega), if_neg (by omega)]
  rw [e]
  show ∃ d', y.Up J.slot d' ∧ Dur d' J (after a 0 L G).1 (if (0 : Int) = 0 ∧ (a.kind = 1 ∨ a.kind = 3) then L.length else if (0 : Int) = 0 ∧ (a.kind = 4 ∨ a.kind = 5) then 0 else sr)
  rw [ea, if_neg (by omega), if_neg (by omega)]
  exact ⟨d, ok.up, u⟩

/-- No call of a journal that is whole is refused as a dark bay refuses. -/
theorem Ok.not_dark {y : Bay} {J : Jn} {d : Dk} {B : Nat} (h : Ok y J d B) {a : WOpD} (hb : ∀ p ∈ a.pts, By p.d) : (callJ y J a).err ≠ 50 := by
 by_cases k1 : a.kind = 1
 ·have e : callJ y J a = logJ y J (scErr J.ep J.next a.pts) (a.pts.map pdOf) := by unfold callJ; rw [if_pos k1]
  rw [e]
  by_cases h0 : logErr J (scErr J.ep J.next a.pts) (a.pts.map pdOf).length = 0
  case neg =>
   rw [h.log_no h0]
   show logErr J (scErr J.ep J.next a.pts) (a.pts.map pdOf).length ≠ 50
   have hs : scErr J.ep J.next a.pts ≠ 50 := by
    unfold scErr
    split
    ·split
     ·decide
     ·split <;> decide
    ·decide
   unfold logErr
   rw [if_neg (fun q => q h.br)]
   split
   ·exact hs
   ·split
    ·decide
    ·split <;> decide
  have he : scErr J.ep J.next a.pts = 0 := by
   by_cases q : scErr J.ep J.next a.pts = 0
   ·exact q
   ·unfold logErr at h0
    rw [if_neg (fun k => k h.br), if_pos q] at h0
    exact h0
  have hg := (scErr_zero he hb).2.1
  rw [he] at h0 ⊢
  obtain ⟨_, h1, _⟩ := h.log hg h0
  rw [h1]
  decide
 by_cases k2 : a.kind = 2
 ·have e : callJ y J a = sealJ y J := by unfold callJ; rw [if_neg k1, if_pos k2]
  rw [e]
  rcases h.sealing with ⟨_, q⟩ | ⟨_, _, _, q, _⟩
  ·rw [q]; show (1 : Int) ≠ 50; decide
  ·rw [q]; decide
 by_cases k3 : a.kind = 3
 ·have e : callJ y J a = syncJ y J := by unfold callJ; rw [if_neg k1, if_neg k2, if_pos k3]
  rw [e]
  rcases h.syncing with ⟨_, q⟩ | ⟨_, _, q, _⟩
  ·rw [q]; show (0 : Int) ≠ 50; decide
  ·rw [q]; decide
 have hpass : ∀ ep, ep ≤ B + 1 → (passJ y J ep).err ≠ 50 := fun ep hep => by
  rcases h.passing ep hep with _ | ⟨_, _, _, q, _⟩
  ·unfold passJ
   rw [if_neg (fun q => q h.br)]
   split
   ·show (1 : Int) ≠ 50; decide
   ·split
    ·show Ck.err ⟨ep, J.next, (J.head : Nat)⟩ ≠ 50
     unfold Ck.err
     split <;> decide
    ·rename_i hs he
     have hs : J.sure = true := by simpa using hs
     have hok : Ck.Ok ⟨ep, J.next, (J.head : Nat)⟩ := by
      by_cases q : Ck.Ok ⟨ep, J.next, (J.head : Nat)⟩
      ·exact q
      ·exact absurd (by unfold Ck.err; rw [if_neg q]; decide) he
     have := (h.passing_ok ep hs hok).1
     unfold passJ at this
     rw [if_neg (fun q => q h.br), if_neg (by rw [hs]; decide), if_neg he] at this
     rw [this]
     decide
  ·rw [q]; decide
 have he := h.ep
 by_cases k4 : a.kind = 4
 ·have e : callJ y J a = passJ y J J.ep := by unfold callJ; rw [if_neg k1, if_neg k2, if_neg k3, if_pos k4]
  rw [e]
  exact hpass _ (by omega)
 by_cases k5 : a.kind = 5
 ·have e : callJ y J a = passJ y J (J.ep + 1) := by unfold callJ; rw [if_neg k1, if_neg k2, if_neg k3, if_neg k4, if_pos k5]
  rw [e]
  exact hpass _ (by omega)
 ·have e : callJ y J a = ⟨0, y, J⟩ := by unfold callJ; rw [if_neg k1, if_neg k2, if_neg k3, if_neg k4, if_neg k5]
  rw [e]
  show (0 : Int) ≠ 50
  decide

/-- A journal that goes on; so many batches are sure. -/
structure Live (bay : Bay) (J : Jn) (B : Nat) (L : List (List Pd)) (G : Option (List Pd)) (sr : Nat) : Prop where
 st : ∃ (y : Bay) (t : Option Nat) (d : Dk), bay = y.timed t ∧ Ok y J d B ∧ Keeps d J L G ∧ Dur d J L sr

/-- A journal in whose call the power has gone; whatever is kept, this is found. -/
structure Dead (bay : Bay) (J : Jn) (B : Nat) (L : List (List Pd)) (sr : Nat) (k : Int) : Prop where
 st : ∃ (y : Bay) (d : Dk), bay = y.fell ∧ y.Up J.slot d ∧ 2 + J.S ≤ d.last.length ∧ ∀ keep, ∃ Jf Lf Gf, Left (cutD d keep) J L sr (k = 4 ∨ k = 5) Jf Lf Gf
 lo : 5 ≤ J.S
 hi : J.S ≤ 2048
 next : J.next ≤ B
 ep : J.ep ≤ B

/-- A call of a journal that goes on. -/
theorem Live.call {bay : Bay} {J : Jn} {B : Nat} {L : List (List Pd)} {G : Option (List Pd)} {sr : Nat} (h : Live bay J B L G sr) (hB : B ≤ 4611686018427387000) {a : WOpD} (hb : ∀ p ∈ a.pts, By p.d) :
 ((callJ bay J a).err = 50 ∧ Dead (callJ bay J a).bay (callJ bay J a).jn (B + 1) L sr a.kind ∧ 1 ≤ a.kind ∧ a.kind ≤ 5) ∨
 ((callJ bay J a).err ≠ 50 ∧ Live (callJ bay J a).bay (callJ bay J a).jn (B + 1) (after a (callJ bay J a).err L G).1 (after a (callJ bay J a).err L G).2
   (if (callJ bay J a).err = 0 ∧ (a.kind = 1 ∨ a.kind = 3) then L.length else if (callJ bay J a).err = 0 ∧ (a.kind = 4 ∨ a.kind = 5) then 0 else sr) ∧
   (callJ bay J a).jn.slot = J.slot ∧ (callJ bay J a).jn.S = J.S ∧ ((callJ bay J a).err = 0 → a.kind = 2 → ∃ l, G = some l) ∧ ((callJ bay J a).err = 0 → a.kind = 1 → scErr J.ep J.next a.pts = 0)) := by
 obtain ⟨y, t, d, rfl, ok, k, u⟩ := h.st
 rcases ok.timed hb t with ⟨yd, d', q, hu, m⟩ | ⟨t', q⟩
 ·left
  rw [q]
  have hz : d'.last.length = d.last.length := by cases m <;> rfl
  refine ⟨rfl, ⟨⟨yd, d', rfl, hu, by rw [hz]; exact ok.size, fun keep => ?_⟩, ok.lo, ok.hi, Nat.le_succ_of_le ok.next, Nat.le_succ_of_le ok.ep⟩, ?_⟩
  ·obtain ⟨Jf, Lf, Gf, x⟩ := u.mid ok (by omega) k hb m keep
   exact ⟨Jf, Lf, Gf, x.keeps, x.part, x.size, x.tail, x.used, x.nums, x.next, x.less, x.ep, x.good⟩
  ·cases m with
   | log _ h _ => omega
   | same h => omega
   | pass _ h _ _ => omega
 ·right
  rw [q]
  obtain ⟨⟨d1, s1⟩, hsl, hsz⟩ := call_ok (a := a) ok hb
  obtain ⟨d2, u2, k2, _, _⟩ := k.call (a := a) ok (by omega) hb
  obtain ⟨d3, u3, v3⟩ := u.every ok k hb
  have us := s1.up
  rw [hsl] at us
  obtain rfl : d1 = d2 := by have := us.dev.symm.trans u2.dev; simpa using this
  obtain rfl : d1 = d3 := by have := us.dev.symm.trans u3.dev; simpa using this
  refine ⟨ok.not_dark hb, ⟨⟨_, t', d1, rfl, s1, k2, v3⟩⟩, hsl, hsz, fun he hk => ?_, fun he hk => ?_⟩
  ·have e1 : callJ y J a = sealJ y J := by unfold callJ; rw [if_neg (by omega), if_pos hk]
   have he : (callJ y J a).err = 0 := he
   rcases ok.sealing with ⟨_, q⟩ | ⟨c, _, q, _⟩
   ·rw [e1, q] at he
    cases he
   ·rw [k.com] at q
    cases hG : G with
    | none => rw [hG] at q; cases q
    | some l => exact ⟨l, rfl⟩
  ·have e1 : callJ y J a = logJ y J (scErr J.ep J.next a.pts) (a.pts.map pdOf) := by unfold callJ; rw [if_pos hk]
   exact log_err0 (by rw [← e1]; exact he)

/-- The power goes behind so many operations. -/
theorem Live.trip {bay : Bay} {J : Jn} {B : Nat} {L : List (List Pd)} {G : Option (List Pd)} {sr : Nat} (h : Live bay J B L G sr) (n : Int) : Live (bay.tripped n) J B L G sr := by
 obtain ⟨y, t, d, rfl, ok, k, u⟩ := h.st
 unfold Bay.tripped
 split
 ·exact ⟨⟨y, some n.toNat, d, rfl, ok, k, u⟩⟩
 ·exact ⟨⟨y, t, d, rfl, ok, k, u⟩⟩

theorem Dead.trip {bay : Bay} {J : Jn} {B : Nat} {L : List (List Pd)} {sr : Nat} {k : Int} (h : Dead bay J B L sr k) (n : Int) : bay.tripped n = bay := by
 obtain ⟨y, d, rfl, _⟩ := h.st
 have : (y.fell).tripErr n ≠ 0 := by
  unfold Bay.tripErr
  split
  ·decide
  ·rw [if_pos (show y.fell.dark = true from rfl)]
   decide
 unfold Bay.tripped
 rw [if_neg this]

/-- Cut off: the disk answers, and this is found on it. -/
theorem Live.cut {bay : Bay} {J : Jn} {B : Nat} {L : List (List Pd)} {G : Option (List Pd)} {sr : Nat} (h : Live bay J B L G sr) (hB : B ≤ 4611686018427387904) (hs : J.slot = 0) (hc : (bay.slots[(0 : Int).toNat]?).bind (·.coming) = none) (keep : List Bool) :
 ∃ d Jf Lf Gf, (bay.cut [keep]).Up 0 d ∧ d.cache = [] ∧ 2 + J.S ≤ d.last.length ∧ Left d J L sr False Jf Lf Gf := by
 obtain ⟨y, t, d, rfl, ok, k, u⟩ := h.st
 have hu := ok.up
 rw [hs] at hu
 obtain ⟨u2, _⟩ := up_cut hu hc [keep]
 obtain ⟨Jf, Lf, Gf, x⟩ := u.left ok hB k False keep
 refine ⟨_, Jf, Lf, Gf, u2, rfl, ?_, x⟩
 show 2 + J.S ≤ ((Dk.kept keep 0 d.cache).foldl Dk.lay d.last).length
 rw [Dk.lays_length]
 exact ok.size

theorem Dead.cut {bay : Bay} {J : Jn} {B : Nat} {L : List (List Pd)} {sr : Nat} {k : Int} (h : Dead bay J B L sr k) (hs : J.slot = 0) (hc : (bay.slots[(0 : Int).toNat]?).bind (·.coming) = none) (keep : List Bool) :
 ∃ d Jf Lf Gf, (bay.cut [keep]).Up 0 d ∧ d.cache = [] ∧ 2 + J.S ≤ d.last.length ∧ Left d J L sr (k = 4 ∨ k = 5) Jf Lf Gf := by
 obtain ⟨y, d, rfl, hu, hz, ha⟩ := h.st
 rw [hs] at hu
 obtain ⟨u2, _⟩ := up_cut hu hc [keep]
 obtain ⟨Jf, Lf, Gf, x⟩ := ha keep
 refine ⟨_, Jf, Lf, Gf, u2, rfl, ?_, x⟩
 show 2 + J.S ≤ ((Dk.kept keep 0 d.cache).foldl Dk.lay d.last).length
 rw [Dk.lays_length]
 exact hz

/-- A journal that was opened on such a disk goes on. -/
theorem Left.live {d : Dk} {J Jf : Jn} {L Lf : List (List Pd)} {Gf : Option (List Pd)} {sr B : Nat} {gone : Prop} {y : Bay} (x : Left d J L sr gone Jf Lf Gf) (hu : y.Up 0 d) (hc : d.cache = []) (hz : 2 + J.S ≤ d.last.length) (lo : 5 ≤ J.S) (hi : J.S ≤ 2048) (hn : J.next ≤ B) (he : J.ep ≤ B) :
 Live y (begun 0 Jf.S ⟨Jf.ep, Jf.next - Lf.length, (Jf.t : Nat)⟩ Jf.u Jf.next) (B + 1) Lf none Lf.length := by
 have e0 := x.size
 have e1 := x.next
 have e2 := x.ep
 have hk := x.keeps
 have ht : y.timed none = y := by
  have h3 := hu.trip
  cases y
  simp only at h3
  subst h3
  rfl
 refine ⟨⟨y, none, d, ht.symm, ⟨hu, by show 2 + Jf.S ≤ _; omega, by show 5 ≤ Jf.S; omega, by show Jf.S ≤ 2048; omega, ?_, x.used, rfl, by show Jf.next ≤ B + 1; omega, by show Jf.ep ≤ B + 1; omega, (fun c hc => by cases hc), by show (0 : Nat) ≤ 2047; omega⟩, ⟨hk.bytes, hk.ck, hk.cok, hk.good, hk.nx, hk.used, hk.laid, hk.free, rfl, fun l hl => by cases hl⟩, .inl ⟨hc, Nat.le_refl _⟩⟩⟩
 show ((Jf.t : Nat) : Int).toNat < Jf.S
 have := x.tail
 omega

end Wl
end Go.Proofs.YtkafkdlgflkjgaaGreat
