/-
  WalCosts' walk. By an AI agent.
-/
import Derived.Test.YtkafkdlgflkjgaaGreatBWlKnR
import Derived.Test.YtkafkdlgflkjgaaGreatBWlMuch
import Derived.Test.YtkafkdlgflkjgaaGreatBWlUp
namespace Go.Proofs.YtkafkdlgflkjgaaGreat
open Go.RowKit Go.Maps Crc

/-- How a journal stands behind so many ops. -/
structure CSt (es : List WOpD) (n j : Nat) (y : Bay) (J : Wl.Jn) (d : Dk) (B L : Nat) : Prop where
  ok : Wl.Ok y J d B
  b : B ≤ 3 + j
  low : y.Low L
  l : L ≤ 3000 + 3 * wopW es j
  slot : J.slot = 0
  size : J.S = n

theorem CSt.begin {es : List WOpD} {n : Nat} (n5 : 5 ≤ n) (n2 : n ≤ 2048) : ∃ d, CSt es n 0 (Wl.fmtIo (Bay.new [2050]) 0 n 3).1 (Wl.begun 0 n ⟨3, 1, 0⟩ 0 1) d 3 2050 := by
  obtain ⟨_, d, h⟩ := Wl.cost_begin n5 n2
  exact ⟨d, h, Nat.le_refl _, (Wl.fmtIo_low (Bay.new_low [2050]) 0 n 3).mono (by omega), by omega, rfl, rfl⟩

theorem CSt.next {es : List WOpD} {n j : Nat} {y : Bay} {J : Wl.Jn} {d : Dk} {B L nw nf k : Nat} {o : Wl.Out} {a : WOpD} (h : CSt es n j y J d B L) (ha : es[j]? = some a) (c : Wl.Costs y J B o nw nf) (hl : o.bay.Low (L + k)) (hk : k ≤ 3 * a.weight) : ∃ d', CSt es n (j + 1) o.bay o.jn d' (B + 1) (L + k) := by
  obtain ⟨d', ok⟩ := c.ok
  refine ⟨d', ok, by have := h.b; omega, hl, ?_, c.slot.trans h.slot, c.size.trans h.size⟩
  rw [wopW_succ ha]
  have := h.l
  omega

theorem CSt.idle {es : List WOpD} {n j : Nat} {y : Bay} {J : Wl.Jn} {d : Dk} {B L : Nat} {a : WOpD} (h : CSt es n j y J d B L) (ha : es[j]? = some a) : ∃ d', CSt es n (j + 1) y J d' (B + 1) (L + 0) :=
  h.next ha (h.ok.same (e := 1) (by decide) 0 0) h.low (by omega)

theorem CSt.fit {es : List WOpD} {n j : Nat} {y : Bay} {J : Wl.Jn} {d : Dk} {B L : Nat} (h : CSt es n j y J d B L) (hj : j ≤ 100000) : J.Fit := h.ok.fit (by have := h.b; omega)

/-- So many operations more, if it is not refused. -/
def CDone (y : Bay) (o : Wl.Out) (nw nf : Int) : Prop :=
  o.bay.reads = y.reads ∧ (o.err = 0 → (o.bay.writes : Int) = y.writes + nw ∧ (o.bay.flushes : Int) = y.flushes + nf) ∧ (o.err ≠ 0 → o.bay.writes = y.writes ∧ o.bay.flushes = y.flushes)

/-- What a call comes to, in the walk: its error, the journal behind it, and so many operations. -/
def CPost (w0 : World) (es : List WOpD) (n j b W D R : Nat) (y : Bay) (ts : List Thing) (nw nf : Int) (e : Ending) (w' : World) : Prop :=
  ∃ (o : Wl.Out) (cv : Value) (F : List Nat) (d : Dk) (B L : Nat), e = .returned (.int .u16 o.err) ∧ Hid (CSt es n (j + 1) o.bay o.jn d B L) ∧
    Hid (CDone y o nw nf) ∧ Hid (Side w0 w' (jts b W D R o.jn cv o.bay F ts))

theorem wopW_le {es : List WOpD} (h : wopW es es.length ≤ 5000) : es.length ≤ 5000 ∧ ∀ j, wopW es j ≤ 5000 := by
  have h1 : ∀ l : List WOpD, l.length ≤ (l.map WOpD.weight).sum := fun l => by
    induction l with
    | nil => exact Nat.le_refl 0
    | cons a l ih =>
      rw [List.map_cons, List.sum_cons, List.length_cons]
      have : 1 ≤ a.weight := by unfold WOpD.weight; omega
      omega
  have h2 : ∀ (l : List WOpD) (j : Nat), ((l.take j).map WOpD.weight).sum ≤ (l.map WOpD.weight).sum := fun l => by
    induction l with
    | nil => intro j; simp
    | cons a l ih =>
      intro j
      cases j with
      | zero => simp
      | succ j =>
        rw [List.take_succ_cons, List.map_cons, List.sum_cons, List.map_cons, List.sum_cons]
        have := ih j
        omega
  unfold wopW at h ⊢
  rw [List.take_length] at h
  exact ⟨Nat.le_trans (h1 es) h, fun j => Nat.le_trans (h2 es j) h⟩

section
variable {w0 X : World} {es : List WOpD} {n j b W D R : Nat} {y : Bay} {J : Wl.Jn} {d : Dk} {B L : Nat} {cv : Value} {F : List Nat} {ts : List Thing} {a : WOpD}

theorem CSt.bound (h : CSt es n j y J d B L) (hw : wopW es es.length ≤ 5000) : L ≤ 20000 := by
  have := h.l
  have := (wopW_le hw).2 j
  omega

theorem CPost.of {e : Ending} {w' : World} {o : Wl.Out} {nw nf k : Nat} {cv' : Value} {F' : List Nat} (h : CSt es n j y J d B L) (ha : es[j]? = some a) (c : Wl.Costs y J B o nw nf) (hl : o.bay.Low (L + k)) (hk : k ≤ 3 * a.weight) {mw mf : Int} (hm : o.err = 0 → mw = nw ∧ mf = nf) (he : e = .returned (.int .u16 o.err)) (H : Side w0 w' (jts b W D R o.jn cv' o.bay F' ts)) : CPost w0 es n j b W D R y ts mw mf e w' := by
  obtain ⟨d', s⟩ := h.next ha c hl hk
  exact ⟨o, cv', F', d', _, _, he, s, ⟨c.reads, fun q => by have := c.did q; have := hm q; omega, c.no⟩, H⟩

theorem meas_next {N j : Nat} (h : j < N) : N - (intOf (.int .i64 ((j : Int) + 1))).toNat < N - (intOf (.int .i64 (j : Int))).toNat := by
  show N - ((j : Int) + 1).toNat < N - ((j : Int)).toNat
  omega

theorem log_err0 {y : Bay} {J : Wl.Jn} {e : Int} {l : List Pd} (h : (Wl.logJ y J e l).err = 0) : e = 0 := by
  unfold Wl.logJ at h
  split at h
  next q => exact absurd h q
  next q =>
    have q' : Wl.logErr J e l.length = 0 := by omega
    unfold Wl.logErr at q'
    split at q'
    · rename_i hb; omega
    · split at q'
      · exact q'
      · omega

end

end Go.Proofs.YtkafkdlgflkjgaaGreat

/-
  'begun' and 'calls': a new journal on a bay of two disks, and one of the five calls. By an AI agent.
-/
namespace Go.Proofs.YtkafkdlgflkjgaaGreat
open Go.RowKit Go.Maps Crc

namespace Wl

/-- What one of the five calls comes to. -/
def callJ (y : Bay) (J : Jn) (a : WOpD) : Out :=
  if a.kind = 1 then logJ y J (scErr J.ep J.next a.pts) (a.pts.map pdOf) else
  if a.kind = 2 then sealJ y J else if a.kind = 3 then syncJ y J else if a.kind = 4 then passJ y J J.ep else
  if a.kind = 5 then passJ y J (J.ep + 1) else ⟨0, y, J⟩

/-- A bay of two empty disks, and a new journal on the first. -/
def twoBay (n : Nat) : Bay := Bay.new [((2 + n : Nat) : Int), ((2 + n : Nat) : Int)]
def bgBay (n : Nat) : Bay := (fmtIo (twoBay n) 0 n 1).1
def bgJn (n : Nat) : Jn := begun 0 n ⟨1, 1, 0⟩ 0 1

theorem two_up (n : Nat) (s : Int) (hs : s = 0 ∨ s = 1) : (twoBay n).Up s (Dk.new (2 + n)) := by
  have e : Bay.slotOf ((2 + n : Nat) : Int) = ⟨some ⟨Dk.new (2 + n), none⟩, none, none⟩ := by
    unfold Bay.slotOf
    rw [if_neg (show ¬ ((2 + n : Nat) : Int) = 0 by omega)]
    rfl
  have e2 : twoBay n = ⟨[⟨some ⟨Dk.new (2 + n), none⟩, none, none⟩, ⟨some ⟨Dk.new (2 + n), none⟩, none, none⟩], false, none, 0, 0, 0⟩ := by
    unfold twoBay Bay.new
    rw [List.map_cons, List.map_cons, e]
    rfl
  rw [e2]
  rcases hs with rfl | rfl <;> exact ⟨rfl, rfl, rfl, rfl⟩

theorem bg_up {n : Nat} (n5 : 5 ≤ n) (n2 : n ≤ 2048) : (fmtIo (twoBay n) 0 n 1).2 = 0 ∧ ∃ d', Ok (bgBay n) (bgJn n) d' 3 := by
  have hu : (twoBay n).Up 0 (Dk.new (2 + n)) := two_up n 0 (.inl rfl)
  obtain ⟨d', h1, _, h3, _⟩ := fmt_up (s := 0) (d := Dk.new (2 + n)) (B := 3) (n := n) (ep := 1) hu n5 n2 (by show 2 + n ≤ (List.replicate (2 + n) (List.replicate 128 0)).length; rw [List.length_replicate]; omega) (by decide) ⟨by decide, by decide⟩
  exact ⟨h1, d', h3⟩

end Wl

/-- The journal stands behind one more call. -/
theorem CSt.call {es : List WOpD} {n j : Nat} {y : Bay} {J : Wl.Jn} {d : Dk} {B L : Nat} {a : WOpD} (h : CSt es n j y J d B L) (ha : es[j]? = some a) (hb : ∀ p ∈ a.pts, By p.d) : ∃ d' B' L', CSt es n (j + 1) (Wl.callJ y J a).bay (Wl.callJ y J a).jn d' B' L' := by
  unfold Wl.callJ
  split
  · have hg : scErr J.ep J.next a.pts = 0 → Sc.Good (a.pts.map pdOf) := fun q => (scErr_zero q hb).2.1
    have low := Wl.logJ_low h.low J (scErr J.ep J.next a.pts) (a.pts.map pdOf)
    rw [List.length_map] at low
    obtain ⟨d', s⟩ := h.next ha (h.ok.logCosts hg) low (by unfold WOpD.weight; omega)
    exact ⟨d', _, _, s⟩
  split
  · obtain ⟨d', s⟩ := h.next ha h.ok.sealCosts (Wl.sealJ_low h.low J) (by unfold WOpD.weight; omega)
    exact ⟨d', _, _, s⟩
  split
  · obtain ⟨d', s⟩ := h.next ha h.ok.syncCosts.2 (Wl.syncJ_low h.low J) (by unfold WOpD.weight; omega)
    exact ⟨d', _, _, s⟩
  split
  · obtain ⟨d', s⟩ := h.next ha (h.ok.passCosts J.ep (Nat.le_succ_of_le h.ok.ep)) (Wl.passJ_low h.low J J.ep) (by unfold WOpD.weight; omega)
    exact ⟨d', _, _, s⟩
  split
  · obtain ⟨d', s⟩ := h.next ha (h.ok.passCosts (J.ep + 1) (by have := h.ok.ep; omega)) (Wl.passJ_low h.low J (J.ep + 1)) (by unfold WOpD.weight; omega)
    exact ⟨d', _, _, s⟩
  · obtain ⟨d', s⟩ := h.idle ha
    exact ⟨d', _, _, s⟩

set_option maxHeartbeats 4000000 in
set_option maxRecDepth 100000 in
theorem calls_any {w0 X : World} {b W D R : Nat} {J : Wl.Jn} {cv : Value} {y : Bay} {F : List Nat} {ts : List Thing} (H : Side w0 X (jts b W D R J cv y F ts)) (hf : J.Fit) (hs : I64 J.slot) (hl : y.Low 999990000)
    (a : WOpD) (h2 : Pts X a.ptsV a.pts) (hb : ∀ p ∈ a.pts, By p.d ∧ Cap p.v) (h3 : ∃ o n c, a.keepV = .slice o n c) :
    Calls Tryz.prog 38 #[.pointer (some ⟨W, 0, none⟩), .agg #[.int .i64 a.kind, .int .i64 a.num, a.ptsV, a.keepV]] X (AnsL w0 b W D R ts (Wl.callJ y J a)) := by
  obtain ⟨o2, c2, e2⟩ := h2.slice
  obtain ⟨o3, n3, c3, e3⟩ := h3
  obtain ⟨wB, hwB⟩ : ∃ wB, wB = X.alloc (.cells #[.int .i64 a.kind, .int .i64 a.num, a.ptsV, a.keepV] 61) := ⟨_, rfl⟩
  have HB : Side w0 wB (jts b W D R J cv y F (blkT X.heap.size 61 [.int .i64 a.kind, .int .i64 a.num, a.ptsV, a.keepV] :: ts)) := by rw [hwB]; exact H.behind _ [_, _, _, _]
  have k0 := (HB.get 5 rfl : Blk _ _ _ _).cell (j := 0) rfl
  have k2 := (HB.get 5 rfl : Blk _ _ _ _).cell (j := 2) rfl
  have hPT : Pts wB a.ptsV a.pts := by rw [hwB]; exact h2.chg ((Chg.refl [] X).alloc _)
  have C1 := Lib.hid (wlog_any HB hf hs hl _ a.pts hPT hb)
  have C2 := Lib.hid (wseal_any HB hf hs (hl.mono (by decide)))
  have C3 := Lib.hid (wsync_any HB hs (hl.mono (by decide)))
  have C4 := Lib.hid (wreclaim_any HB hf hs (hl.mono (by decide)))
  have C5 := Lib.hid (wrenew_any HB hf hs (hl.mono (by decide)))
  have fin : Hid (∀ (o : Wl.Out) e w', AnsL w0 b W D R (blkT X.heap.size 61 [.int .i64 a.kind, .int .i64 a.num, a.ptsV, a.keepV] :: ts) o e w' → AnsL w0 b W D R ts o e w') := fun o e w' ⟨h1, F', cv', h2⟩ => ⟨h1, F', cv', h2.out.less⟩
  have fin2 : Hid (∀ (o : Wl.Out) e w', Ans w0 b W D R cv (blkT X.heap.size 61 [.int .i64 a.kind, .int .i64 a.num, a.ptsV, a.keepV] :: ts) o e w' → AnsL w0 b W D R ts o e w') := fun o e w' ⟨h1, F', h2⟩ => ⟨h1, F', cv, h2.out.less⟩
  have f0 : Hid (AnsL w0 b W D R ts ⟨0, y, J⟩ (.returned (.int .u16 0)) wB) := ⟨rfl, F, cv, HB.less⟩
  clear HB hPT h2 H hf hs hl
  rw [e2] at k2 C1 C2 C3 C4 C5 fin fin2 hwB ⊢
  rw [e3] at C1 C2 C3 C4 C5 fin fin2 hwB ⊢
  clear e2 e3
  subst hwB
  unfold Wl.callJ
  generalize a.kind = k at *
  generalize a.num = num at *
  go_enter Tryz.func38, Tryz.ntmps38
  by_cases q1 : k = 1
  · subst q1
    rw [if_pos rfl]
    go_wp2_with (go_at_call 30; refine C1.out.mono ?_; rintro e w' ⟨rfl, F', cv', h⟩)
    go_ret
    exact fin.out _ _ _ ⟨rfl, F', cv', h⟩
  rw [if_neg q1]
  have b1 : (k == 1) = false := by simpa using q1
  by_cases q2 : k = 2
  · subst q2
    rw [if_pos rfl]
    go_wp2_with (go_at_call 31; refine C2.out.mono ?_; rintro e w' ⟨rfl, F', h⟩)
    go_ret
    exact fin2.out _ _ _ ⟨rfl, F', h⟩
  rw [if_neg q2]
  have b2 : (k == 2) = false := by simpa using q2
  by_cases q3 : k = 3
  · subst q3
    rw [if_pos rfl]
    go_wp2_with (go_at_call 32; refine C3.out.mono ?_; rintro e w' ⟨rfl, F', h⟩)
    go_ret
    exact fin2.out _ _ _ ⟨rfl, F', h⟩
  rw [if_neg q3]
  have b3 : (k == 3) = false := by simpa using q3
  by_cases q4 : k = 4
  · subst q4
    rw [if_pos rfl]
    go_wp2_with (go_at_call 33; refine C4.out.mono ?_; rintro e w' ⟨rfl, F', h⟩)
    go_ret
    exact fin2.out _ _ _ ⟨rfl, F', h⟩
  rw [if_neg q4]
  have b4 : (k == 4) = false := by simpa using q4
  by_cases q5 : k = 5
  · subst q5
    rw [if_pos rfl]
    go_wp2_with (go_at_call 34; refine C5.out.mono ?_; rintro e w' ⟨rfl, F', h⟩)
    go_ret
    exact fin2.out _ _ _ ⟨rfl, F', h⟩
  rw [if_neg q5]
  have b5 : (k == 5) = false := by simpa using q5
  go_wp2_with fail
  go_ret
  exact f0

/-- Reclaim and Renew, when they are not refused. -/
theorem Wl.Ok.passing_ok {y : Bay} {J : Wl.Jn} {d : Dk} {B : Nat} (h : Wl.Ok y J d B) (ep : Nat) (hs : J.sure = true) (hok : Ck.Ok ⟨ep, J.next, (J.head : Nat)⟩) : (Wl.passJ y J ep).err = 0 ∧ (Wl.passJ y J ep).jn = Wl.passed J ep ∧
    y.Went (Wl.passJ y J ep).bay J.slot { d with last := (d.cache ++ [(1, Ck.enc ⟨ep, J.next, (J.head : Nat)⟩)]).foldl Dk.lay d.last, cache := [] } 0 1 1 := by
  have hlen : (Ck.enc ⟨ep, J.next, (J.head : Nat)⟩).length = 128 := by
    unfold Ck.enc
    rw [if_pos hok]
    exact Rec.sector_length (by show (1 : Nat) ≤ 25; decide)
  have hz := h.size
  obtain ⟨w1, w2⟩ := h.up.write (p := 1) (x := Ck.enc ⟨ep, J.next, (J.head : Nat)⟩) (by omega) hlen
  obtain ⟨b1, b2⟩ := Wl.fl_up w2.up
  have he : Ck.err ⟨ep, J.next, (J.head : Nat)⟩ = 0 := by unfold Ck.err; rw [if_pos hok]
  have e1 : Wl.passIo y J ep = Wl.fl J.slot (y.write J.slot ((1 : Nat) : Int) (Ck.enc ⟨ep, J.next, (J.head : Nat)⟩), 0) := by
    unfold Wl.passIo
    rw [h.br]
    have : Wl.wr J.slot (y, 0) 1 (Ck.enc ⟨ep, J.next, (J.head : Nat)⟩) = (y.write J.slot ((1 : Nat) : Int) (Ck.enc ⟨ep, J.next, (J.head : Nat)⟩), 0) := by
      unfold Wl.wr
      rw [if_pos rfl]
      exact Prod.ext rfl w1
    rw [this]
  have e : Wl.passJ y J ep = ⟨0, (Wl.passIo y J ep).1, (Wl.passed J ep).broke 0⟩ := by
    unfold Wl.passJ Wl.ends
    rw [if_neg (fun q => q h.br), if_neg (by rw [hs]; decide), if_neg (by rw [he]; exact fun q => q rfl), if_pos (by rw [e1]; exact b1)]
  have e4 : (Wl.passed J ep).broke 0 = Wl.passed J ep := by unfold Wl.Jn.broke Wl.passed; rw [h.br]
  have w := w2.trans b2
  rw [← e1] at w
  rw [e, e4]
  exact ⟨rfl, rfl, by simpa using w⟩

theorem Wl.Ok.passing_no {y : Bay} {J : Wl.Jn} {d : Dk} {B : Nat} (h : Wl.Ok y J d B) (ep : Nat) (hno : ¬ (J.sure = true ∧ Ck.Ok ⟨ep, J.next, (J.head : Nat)⟩)) : Wl.passJ y J ep = ⟨if J.sure = false then 1 else 80, y, J⟩ := by
  unfold Wl.passJ
  rw [if_neg (fun q => q h.br)]
  by_cases hs : J.sure = false
  · rw [if_pos hs, if_pos hs]
  · have he : Ck.err ⟨ep, J.next, (J.head : Nat)⟩ = 80 := by
      unfold Ck.err
      rw [if_neg (fun q => hno ⟨by simpa using hs, q⟩)]
    rw [if_neg hs, if_neg hs, he, if_pos (by decide)]

theorem begun_no (ring : Int) (h : ¬ (5 ≤ ring ∧ ring ≤ 2048)) (w : World) : Calls Tryz.prog 44 #[.int .i64 ring] w fun e w' => e = .returned (.tuple #[.pointer none, .pointer none]) ∧ w = w' := by
  by_cases h1 : ring < 5
  · clear h
    go_enter Tryz.func44, Tryz.ntmps44
    go_wp2_with fail
    go_ret2
    exact ⟨rfl, rfl⟩
  · have h2 : 2048 < ring := by omega
    clear h
    go_enter Tryz.func44, Tryz.ntmps44
    go_wp2_with fail
    go_ret2
    exact ⟨rfl, rfl⟩

/-- A new journal, beside what there is. -/
def BegunW (w0 : World) (n : Nat) (ts : List Thing) (e : Ending) (w' : World) : Prop :=
  ∃ b W D R F, e = .returned (.tuple #[.pointer (some ⟨b, 0, none⟩), .pointer (some ⟨W, 0, none⟩)]) ∧ Hid (Side w0 w' (jts b W D R (Wl.bgJn n) (.slice none 0 0) (Wl.bgBay n) F ts))

set_option maxHeartbeats 4000000 in
set_option maxRecDepth 100000 in
theorem begun_ok {w0 w : World} {ts : List Thing} (H : Side w0 w ts) {n : Nat} (n5 : 5 ≤ n) (n2 : n ≤ 2048) : Calls Tryz.prog 44 #[.int .i64 (n : Int)] w (BegunW w0 n ts) := by
  have etwo : Wl.twoBay n = Bay.new [2 + (n : Int), 2 + (n : Int)] := by unfold Wl.twoBay; rw [Int.natCast_add]; rfl
  have NW : Hid (Calls Tryz.prog 27 #[.slice (some ⟨w.heap.size, 0, none⟩) 2 2] (w.alloc (.cells #[.int .i64 (2 + (n : Int)), .int .i64 (2 + (n : Int))] 3)) fun e w'' => ∃ b F, e = .returned (.tuple #[.pointer (some ⟨b, 0, none⟩), .int .u16 0]) ∧ Hid (Side w0 w'' (BayT b (Wl.twoBay n) F :: ts))) := by
    have BX := Blk.made w [.int .i64 (2 + (n : Int)), .int .i64 (2 + (n : Int))] 3
    refine (bnew_any (.slice (some ⟨w.heap.size, 0, none⟩) 2 2) [2 + (n : Int), 2 + (n : Int)] (w.alloc (.cells #[.int .i64 (2 + (n : Int)), .int .i64 (2 + (n : Int))] 3)) (.inr ⟨_, 0, 2, rfl, BX.lt, fun j u hj => by rw [Nat.zero_add]; exact BX.cell hj⟩) (fun z hz => by
      have : z = 2 + (n : Int) := by simpa using hz
      rw [this]
      constructor <;> omega) (by show (2 : Nat) ≤ _; decide)).mono ?_
    rintro e w1 (⟨hno, _⟩ | ⟨_, b, F, h1, D, N, C⟩)
    · refine absurd (Bay.newErr_good (by show (1 : Nat) ≤ 2; decide) (by show (2 : Nat) ≤ 17; decide) (fun z hz => ?_)) hno
      have : z = 2 + (n : Int) := by simpa using hz
      omega
    · rw [etwo]
      exact ⟨b, F, h1, (H.quiet ((Chg.refl [] w).alloc _)).add C.out D.out (fun k hk => by have := N.out k hk; simp at this; simp; omega)⟩
  have FM : Hid (∀ w' b F, Side w0 w' (BayT b (Wl.twoBay n) F :: ts) → Calls Tryz.prog 15 #[.pointer (some ⟨b, 0, none⟩), .int .i64 0, .int .i64 (n : Int), .int .u64 1] w' (Fmtd w0 b (Wl.twoBay n) 0 (n : Int) 1 ts)) := fun w' b F h => wformat_any h 0 (n : Int) ⟨by decide, by decide⟩ ⟨by omega, by omega⟩ 1 (by decide) ((Bay.new_low _).mono (by decide))
  obtain ⟨wa, wb⟩ := sc_wrap (z := 2 + (n : Int)) (by omega) (by omega)
  have h1 : ¬ (n : Int) < 5 := by omega
  have h2 : ¬ (2048 : Int) < (n : Int) := by omega
  clear H etwo
  go_enter Tryz.func44, Tryz.ntmps44
  go_wp2_with (go_at_call 27; refine NW.out.mono ?_; rintro e w1 ⟨b, F, rfl, H1⟩; have FM1 := Lib.hid (FM.out _ _ _ H1.out); clear NW FM)
  refine FM1.out.mono ?_
  rintro e w2 (⟨hno, _⟩ | ⟨_, m, hm, _, _, ⟨hno, _⟩ | ⟨_, W, D, R, F2, rfl, H2⟩⟩)
  · exact absurd ⟨by decide, by omega, by omega⟩ hno
  · obtain rfl : n = m := by omega
    exact absurd (Wl.bg_up n5 n2).1 hno
  · obtain rfl : n = m := by omega
    clear FM1
    go_wp2_with fail
    go_ret2
    exact ⟨b, W, D, R, F2, rfl, H2⟩

end Go.Proofs.YtkafkdlgflkjgaaGreat

/-
  What lies on a journal's disk, in numbers. No function of the program is named here. By an AI agent.
-/
namespace Go.Proofs.YtkafkdlgflkjgaaGreat
open Crc
namespace Wl

theorem over_hit {k : Nat} {x : List Nat} : ∀ {ws : List (Nat × List Nat)} {b : List Nat}, (∃ w ∈ ws, w.1 = k) → (∀ w ∈ ws, w.1 = k → w.2 = x) → Dk.over k b ws = x
  | [], _, ⟨_, h, _⟩, _ => by cases h
  | w :: ws, b, he, h => by
    show Dk.over k (if w.1 = k then w.2 else b) ws = x
    by_cases e : w.1 = k
    · rw [if_pos e, h w List.mem_cons_self e]
      exact over_same (fun v hv => h v (List.mem_cons_of_mem _ hv))
    · rw [if_neg e]
      obtain ⟨v, hv, hk⟩ := he
      refine over_hit ⟨v, ?_, hk⟩ (fun v hv => h v (List.mem_cons_of_mem _ hv))
      rcases List.mem_cons.1 hv with rfl | q
      · exact absurd hk e
      · exact q

theorem over_miss {k : Nat} {ws : List (Nat × List Nat)} {b : List Nat} (h : ∀ w ∈ ws, w.1 ≠ k) : Dk.over k b ws = b := over_same (fun w hw e => absurd e (h w hw))

theorem over_or {k : Nat} : ∀ (ws : List (Nat × List Nat)) (b : List Nat), Dk.over k b ws = b ∨ ∃ w ∈ ws, w.1 = k ∧ Dk.over k b ws = w.2
  | [], _ => .inl rfl
  | w :: ws, b => by
    have e : Dk.over k b (w :: ws) = Dk.over k (if w.1 = k then w.2 else b) ws := rfl
    rw [e]
    rcases over_or ws (if w.1 = k then w.2 else b) with h | ⟨v, hv, hk, h⟩
    · rw [h]
      by_cases q : w.1 = k
      · exact .inr ⟨w, List.mem_cons_self, q, by rw [if_pos q]⟩
      · exact .inl (if_neg q)
    · exact .inr ⟨v, List.mem_cons_of_mem _ hv, hk, h⟩

theorem now_flushed {d d' : Dk} {ws : List (Nat × List Nat)} (e : d' = { d with last := (d.cache ++ ws).foldl Dk.lay d.last, cache := [] }) {k : Nat} (hk : k < d.last.length) : d'.now k = Dk.over k (d.now k) ws := by
  rw [Dk.now_eq, Dk.now_eq d, ← over_app, e]
  show Dk.over k (((d.cache ++ ws).foldl Dk.lay d.last).getD k []) [] = _
  rw [Dk.lays_getD _ _ _ hk]
  rfl

theorem now_cached {d d' : Dk} {ws : List (Nat × List Nat)} (e : d' = { d with cache := d.cache ++ ws }) (k : Nat) : d'.now k = Dk.over k (d.now k) ws := by
  rw [Dk.now_eq, Dk.now_eq d, ← over_app, e]

/-- A place of the ring, from the tail on. -/
def spot (J : Jn) (a : Nat) : Nat := 2 + (J.t + a) % J.S

theorem place_spot (J : Jn) (i : Nat) : J.place i = spot J (J.u + i) := rfl

theorem spot_lt {J : Jn} (h : 0 < J.S) (a : Nat) : 2 ≤ spot J a ∧ spot J a < 2 + J.S := by
  have : (J.t + a) % J.S < J.S := Nat.mod_lt _ h
  unfold spot
  omega

theorem spot_inj {J : Jn} {a b : Nat} (ha : a < J.S) (hb : b < J.S) (h : spot J a = spot J b) : a = b := by
  unfold spot at h
  rcases Nat.lt_trichotomy a b with q | q | q
  · exact absurd (by omega) (Sc.mod_ne (s := J.S) (a := J.t) (j := a) (k := b) q (by omega))
  · exact q
  · exact absurd (by omega) (Sc.mod_ne (s := J.S) (a := J.t) (j := b) (k := a) q (by omega))

theorem puts_at {J : Jn} {l : List (List Nat)} {i : Nat} {x : List Nat} (hi : l[i]? = some x) : (J.place i, x) ∈ J.puts l := by
  obtain ⟨h1, h2⟩ := List.getElem?_eq_some_iff.1 hi
  exact List.mem_mapIdx.2 ⟨i, h1, by rw [h2]⟩

theorem puts_is {J : Jn} {l : List (List Nat)} {w : Nat × List Nat} (h : w ∈ J.puts l) : ∃ i, i < l.length ∧ l[i]? = some w.2 ∧ w.1 = J.place i := by
  obtain ⟨i, hi, e⟩ := List.mem_mapIdx.1 h
  exact ⟨i, hi, by rw [← e]; exact List.getElem?_eq_getElem hi, by rw [← e]⟩

theorem over_puts_hit {J : Jn} {l : List (List Nat)} {i : Nat} {x b : List Nat} (hl : J.u + l.length ≤ J.S) (hi : l[i]? = some x) : Dk.over (spot J (J.u + i)) b (J.puts l) = x := by
  have hil := (List.getElem?_eq_some_iff.1 hi).1
  refine over_hit ⟨_, puts_at hi, rfl⟩ (fun w hw e => ?_)
  obtain ⟨j, hj, h1, h2⟩ := puts_is hw
  rw [h2, place_spot] at e
  have := spot_inj (by omega) (by omega) e
  obtain rfl : j = i := by omega
  exact Option.some.inj (h1.symm.trans hi)

theorem over_puts_miss {J : Jn} {l : List (List Nat)} {a : Nat} {b : List Nat} (hl : J.u + l.length ≤ J.S) (ha : a < J.u) : Dk.over (spot J a) b (J.puts l) = b := by
  refine over_miss (fun w hw e => ?_)
  obtain ⟨j, hj, h1, h2⟩ := puts_is hw
  rw [h2, place_spot] at e
  have := spot_inj (by omega) (by omega) e
  omega

theorem cm_esc {b : List Nat} (h : b.length = 128) : Cm.derr (escV b) ≠ 0 := by
  refine (Sc.derr_other ?_).2
  unfold escV
  rw [if_pos h]
  split
  · rw [List.take_left' (by simp)]
    decide
  · rename_i c
    simpa [begOf] using c

/-- A batch's sectors ahead of its commit are no commits. -/
theorem body_not {ep sq : Nat} {l : List Pd} {j : Nat} {s : List Nat} (hg : Sc.Good l) (hj : j < 2 * l.length) (hs : (Sc.secs ep sq l)[j]? = some s) : Cm.derr s ≠ 0 := by
  rcases Nat.mod_two_eq_zero_or_one j with q | q
  · obtain ⟨i, rfl⟩ : ∃ i, j = 2 * i := ⟨j / 2, by omega⟩
    rw [Sc.secs_hd ep sq (by omega)] at hs
    obtain rfl := Option.some.inj hs
    unfold Sc.hsec
    rw [(other_kind (r := (Sc.hdOf ep sq l.length i (Sc.at' l i)).rec') (show 6 ≤ 25 by decide) (show 1 ≤ 1 by decide) (show 1 ≤ 3 by decide)).2.1 (show (1 : Nat) ≠ 2 by decide)]
    decide
  · obtain ⟨i, rfl⟩ : ∃ i, j = 2 * i + 1 := ⟨j / 2, by omega⟩
    have hi : i < l.length := by omega
    rw [Sc.secs_dt ep sq hi] at hs
    obtain rfl := Option.some.inj hs
    rw [Sc.at'_eq (List.getElem?_eq_getElem hi)]
    exact cm_esc (hg.2.2 _ (List.getElem_mem hi)).2.2.1

/-- What lies on a journal's disk: the batches L, sealed behind one another from the tail on, and what is logged. -/
structure Keeps (d : Dk) (J : Jn) (L : List (List Pd)) (G : Option (List Pd)) : Prop where
  bytes : ∀ p, p < J.S → (d.now (2 + p)).length = 128 ∧ Bs (d.now (2 + p))
  ck : d.now 1 = Ck.enc ⟨J.ep, J.next - L.length, (J.t : Nat)⟩
  cok : Ck.Ok ⟨J.ep, J.next - L.length, (J.t : Nat)⟩
  good : ∀ l ∈ L, Sc.Good l
  nx : L.length + 1 ≤ J.next
  used : J.u = (Sc.chain J.ep (J.next - L.length) L).length
  laid : ∀ (j : Nat) (s : List Nat), (Sc.chain J.ep (J.next - L.length) L)[j]? = some s → d.now (spot J j) = s
  free : ∀ p, p < J.S → Cm.derr (d.now (2 + p)) = 0 → (Cm.of (d.now (2 + p))).ep < J.ep ∨ ((Cm.of (d.now (2 + p))).ep = J.ep ∧ (Cm.of (d.now (2 + p))).sq < J.next)
  com : J.commit = G.map (commitOf J)
  log : ∀ l, G = some l → Sc.Good l ∧ J.cost = 2 * l.length + 1 ∧ ∀ (j : Nat) (s : List Nat), j < 2 * l.length → (Sc.secs J.ep J.next l)[j]? = some s → d.now (spot J (J.u + j)) = s

theorem Keeps.moved {d d' : Dk} {J : Jn} {L : List (List Pd)} {G : Option (List Pd)} (h : Keeps d J L G) (hS : 0 < J.S) (e : ∀ k, k < 2 + J.S → d'.now k = d.now k) : Keeps d' J L G := by
  refine ⟨fun p hp => by rw [e _ (by omega)]; exact h.bytes p hp, by rw [e _ (by omega)]; exact h.ck, h.cok, h.good, h.nx, h.used, fun j s hj => by rw [e _ (spot_lt hS _).2]; exact h.laid j s hj, fun p hp => by rw [e _ (by omega)]; exact h.free p hp, h.com, fun l hl => ?_⟩
  obtain ⟨a, b, c⟩ := h.log l hl
  exact ⟨a, b, fun j s hj hs => by rw [e _ (spot_lt hS _).2]; exact c j s hj hs⟩

/-- A batch's sectors. -/
theorem body_at {J : Jn} {l : List Pd} {j : Nat} (hj : j < 2 * l.length) : (body J l)[j]? = (Sc.secs J.ep J.next l)[j]? := by
  unfold body
  rw [List.getElem?_take, if_pos hj]

theorem Keeps.logging {d d' : Dk} {J : Jn} {L : List (List Pd)} {G : Option (List Pd)} {l : List Pd} (h : Keeps d J L G) (hS : 5 ≤ J.S) (hlast : 2 + J.S ≤ d.last.length) (hg : Sc.Good l) (hfit : J.u + (2 * l.length + 1) ≤ J.S)
    (e : d' = { d with last := (d.cache ++ J.puts (body J l)).foldl Dk.lay d.last, cache := [] }) : Keeps d' (logged J l) L (some l) := by
  have hb : J.u + (body J l).length ≤ J.S := by rw [body_len]; omega
  have hn : ∀ k, k < 2 + J.S → d'.now k = Dk.over k (d.now k) (J.puts (body J l)) := fun k hk => now_flushed e (by omega)
  have hin : ∀ w ∈ J.puts (body J l), 2 ≤ w.1 ∧ ∃ j, j < 2 * l.length ∧ (Sc.secs J.ep J.next l)[j]? = some w.2 := fun w hw => by
    obtain ⟨i, h1, h2, h3⟩ := puts_is hw
    rw [body_len] at h1
    rw [body_at h1] at h2
    exact ⟨by rw [h3, place_spot]; exact (spot_lt (by omega) _).1, i, h1, h2⟩
  refine ⟨fun p hp => ?_, ?_, h.cok, h.good, h.nx, h.used, fun j s hj => ?_, fun p hp hd => ?_, rfl, fun l' hl' => ?_⟩
  · have hp : p < J.S := hp
    rw [hn _ (by omega)]
    rcases over_or (k := 2 + p) (J.puts (body J l)) (d.now (2 + p)) with q | ⟨w, hw, _, q⟩
    · rw [q]; exact h.bytes p hp
    · rw [q]
      obtain ⟨_, j, _, hs⟩ := hin w hw
      exact Sc.secs_ok hg _ (List.mem_of_getElem? hs)
  · rw [hn 1 (by omega), over_miss (fun w hw q => by have := (hin w hw).1; omega)]
    exact h.ck
  · have hju : j < J.u := by rw [h.used]; exact (List.getElem?_eq_some_iff.1 hj).1
    show d'.now (spot J j) = s
    rw [hn _ (spot_lt (by omega) _).2, over_puts_miss hb hju]
    exact h.laid j s hj
  · have hp : p < J.S := hp
    rw [hn _ (by omega)] at hd ⊢
    rcases over_or (k := 2 + p) (J.puts (body J l)) (d.now (2 + p)) with q | ⟨w, hw, _, q⟩
    · rw [q] at hd ⊢; exact h.free p hp hd
    · rw [q] at hd
      obtain ⟨_, j, hj, hs⟩ := hin w hw
      exact absurd hd (body_not hg hj hs)
  · obtain rfl := Option.some.inj hl'
    refine ⟨hg, rfl, fun j s hj hs => ?_⟩
    show d'.now (spot J (J.u + j)) = s
    rw [hn _ (spot_lt (by omega) _).2]
    exact over_puts_hit hb (by rw [body_at hj]; exact hs)

theorem Keeps.sealing {d d' : Dk} {J : Jn} {L : List (List Pd)} {l : List Pd} (h : Keeps d J L (some l)) (hS : 5 ≤ J.S) (hfit : J.u + J.cost ≤ J.S) (hn : numsOk J.ep J.next)
    (e : d' = { d with cache := d.cache ++ [(J.place (J.cost - 1), commitOf J l)] }) : Keeps d' (sealed J) (L ++ [l]) none := by
  obtain ⟨hg, hc, hs⟩ := h.log l rfl
  have hn2 : ∀ k, d'.now k = Dk.over k (d.now k) [(J.place (J.cost - 1), commitOf J l)] := fun k => now_cached e k
  have hpl : J.place (J.cost - 1) = spot J (J.u + 2 * l.length) := by rw [place_spot, hc]; rfl
  rw [hpl] at hn2
  have h0 := (spot_lt (J := J) (by omega) (J.u + 2 * l.length)).1
  have hsq : J.next - L.length + L.length = J.next := by have := h.nx; omega
  have hsq2 : J.next + 1 - (L ++ [l]).length = J.next - L.length := by rw [List.length_append, List.length_singleton]; omega
  have hch : Sc.chain J.ep (J.next - L.length) (L ++ [l]) = Sc.chain J.ep (J.next - L.length) L ++ Sc.secs J.ep J.next l := by rw [Sc.chain_snoc, hsq]
  have cl := commit_len (J := J) hg
  have cmok : (Sc.cmOf J.ep J.next l.length (Sc.hcat J.ep J.next l l.length)).Ok := by
    have := hg.1
    have := hg.2.1
    refine ⟨hn, ?_, ?_⟩ <;> simp only [Sc.cmOf] <;> omega
  have hcm : Cm.of (commitOf J l) = Sc.cmOf J.ep J.next l.length (Sc.hcat J.ep J.next l l.length) := Cm.of_sector _ cmok (sum_lt_of (hcat_bs J.ep J.next l l.length))
  have hmiss : ∀ k, k ≠ spot J (J.u + 2 * l.length) → d'.now k = d.now k := fun k hk => by
    rw [hn2, over_miss (fun w hw q => hk (by rw [List.mem_singleton.1 hw] at q; exact q.symm))]
  have hhit : d'.now (spot J (J.u + 2 * l.length)) = commitOf J l := by
    rw [hn2]
    exact over_hit ⟨_, List.mem_singleton_self _, rfl⟩ (fun w hw _ => by rw [List.mem_singleton.1 hw])
  refine ⟨fun p hp => ?_, ?_, ?_, fun x hx => ?_, ?_, ?_, fun j s hj => ?_, fun p hp hd => ?_, rfl, fun l' hl' => (by cases hl')⟩
  · have hp : p < J.S := hp
    by_cases q : 2 + p = spot J (J.u + 2 * l.length)
    · rw [q, hhit]; exact cl
    · rw [hmiss _ q]; exact h.bytes p hp
  · show d'.now 1 = Ck.enc ⟨J.ep, J.next + 1 - (L ++ [l]).length, (J.t : Nat)⟩
    rw [hsq2, hmiss 1 (by omega)]
    exact h.ck
  · show Ck.Ok ⟨J.ep, J.next + 1 - (L ++ [l]).length, (J.t : Nat)⟩
    rw [hsq2]
    exact h.cok
  · rcases List.mem_append.1 hx with q | q
    · exact h.good x q
    · rw [List.mem_singleton.1 q]; exact hg
  · show (L ++ [l]).length + 1 ≤ J.next + 1
    have := h.nx
    rw [List.length_append, List.length_singleton]
    omega
  · show J.u + J.cost = (Sc.chain J.ep (J.next + 1 - (L ++ [l]).length) (L ++ [l])).length
    rw [hsq2, hch, List.length_append, ← h.used, Sc.secs_len, hc]
  · have hj : (Sc.chain J.ep (J.next + 1 - (L ++ [l]).length) (L ++ [l]))[j]? = some s := hj
    show d'.now (spot J j) = s
    rw [hsq2, hch] at hj
    by_cases q : j < (Sc.chain J.ep (J.next - L.length) L).length
    · rw [List.getElem?_append_left q] at hj
      rw [← h.used] at q
      rw [hmiss _ (fun k => by have := spot_inj (by omega) (by omega) k; omega)]
      exact h.laid j s hj
    · rw [List.getElem?_append_right (by omega), ← h.used] at hj
      rw [← h.used] at q
      have hjl := (List.getElem?_eq_some_iff.1 hj).1
      rw [Sc.secs_len] at hjl
      obtain ⟨i, rfl⟩ : ∃ i, j = J.u + i := ⟨j - J.u, by omega⟩
      rw [Nat.add_sub_cancel_left] at hj hjl
      by_cases qi : i = 2 * l.length
      · subst qi
        rw [Sc.secs_cm] at hj
        rw [hhit]
        exact Option.some.inj hj
      · rw [hmiss _ (fun k => by have := spot_inj (by omega) (by omega) k; omega)]
        exact hs i s (by omega) hj
  · have hp : p < J.S := hp
    show (Cm.of (d'.now (2 + p))).ep < J.ep ∨ ((Cm.of (d'.now (2 + p))).ep = J.ep ∧ (Cm.of (d'.now (2 + p))).sq < J.next + 1)
    by_cases q : 2 + p = spot J (J.u + 2 * l.length)
    · rw [q, hhit, hcm]
      right
      exact ⟨rfl, Nat.lt_succ_self _⟩
    · rw [hmiss _ q] at hd ⊢
      rcases h.free p hp hd with k | ⟨k, m⟩
      · exact .inl k
      · exact .inr ⟨k, by omega⟩

theorem Keeps.passing {d d' : Dk} {J : Jn} {L : List (List Pd)} {G : Option (List Pd)} {ep : Nat} (h : Keeps d J L G) (hS : 5 ≤ J.S) (hlast : 2 + J.S ≤ d.last.length) (hep : ep = J.ep ∨ ep = J.ep + 1) (hok : Ck.Ok ⟨ep, J.next, (J.head : Nat)⟩)
    (e : d' = { d with last := (d.cache ++ [(1, Ck.enc ⟨ep, J.next, (J.head : Nat)⟩)]).foldl Dk.lay d.last, cache := [] }) : Keeps d' (passed J ep) [] none := by
  have hn : ∀ k, k < 2 + J.S → d'.now k = Dk.over k (d.now k) [(1, Ck.enc ⟨ep, J.next, (J.head : Nat)⟩)] := fun k hk => now_flushed e (by omega)
  have hmiss : ∀ p, p < J.S → d'.now (2 + p) = d.now (2 + p) := fun p hp => by
    rw [hn _ (by omega), over_miss (fun w hw q => by rw [List.mem_singleton.1 hw] at q; have q : 1 = 2 + p := q; omega)]
  refine ⟨fun p hp => by rw [hmiss p hp]; exact h.bytes p hp, ?_, hok, fun l hl => (by cases hl), ?_, rfl, fun j s hj => (by cases hj), fun p hp hd => ?_, rfl, fun l hl => (by cases hl)⟩
  · show d'.now 1 = Ck.enc ⟨ep, J.next, (J.head : Nat)⟩
    rw [hn 1 (by omega)]
    exact over_hit ⟨_, List.mem_singleton_self _, rfl⟩ (fun w hw _ => by rw [List.mem_singleton.1 hw])
  · show 0 + 1 ≤ J.next
    have := h.nx
    omega
  · have hp : p < J.S := hp
    show (Cm.of (d'.now (2 + p))).ep < ep ∨ ((Cm.of (d'.now (2 + p))).ep = ep ∧ (Cm.of (d'.now (2 + p))).sq < J.next)
    rw [hmiss p hp] at hd ⊢
    rcases h.free p hp hd with k | ⟨k, m⟩
    · left; omega
    · rcases hep with q | q
      · right; exact ⟨by omega, m⟩
      · left; omega

/-- What a scan of it finds. -/
theorem Keeps.done {d : Dk} {J : Jn} {L : List (List Pd)} {G : Option (List Pd)} (h : Keeps d J L G) (hS : 5 ≤ J.S) (hu : J.u ≤ J.S) (hn : numsOk J.ep J.next) :
    Sc.Done (ringB J.S fun p => d.now (2 + p)) J.ep J.t (J.next - L.length) L J.u := by
  have hb := fun p hp => (h.bytes p hp).1
  have hlen := ringB_len hb
  have hdiv : (ringB J.S fun p => d.now (2 + p)).length / 128 = J.S := by omega
  have hsec : ∀ p, Sc.sec (ringB J.S fun p => d.now (2 + p)) p = d.now (2 + p % J.S) := fun p => ringB_sec hb (by omega) p
  have hbs : Bs (ringB J.S fun p => d.now (2 + p)) := ringB_bs (fun p hp => (h.bytes p hp).2)
  have hsq : J.next - L.length + L.length = J.next := by have := h.nx; omega
  have hq := hn.2.2
  have G0 := Sc.got_of hbs hn.1 (show 1 ≤ J.next - L.length by have := h.nx; omega) L (fun j s hj => by rw [hsec]; exact h.laid j s hj) h.good (by rw [← h.used, hdiv]; exact hu) (by omega)
  rw [← h.used] at G0
  refine ⟨G0, fun n W => ?_⟩
  have he := W.ends
  rw [hsq, hsec] at he
  have hp : (J.t + J.u + 2 * n) % J.S < J.S := Nat.mod_lt _ (by omega)
  rcases h.free _ hp he.1 with k | ⟨_, k⟩
  · have := he.2.1; omega
  · have := he.2.2.1; omega

/-- The batches behind a call. -/
def after (a : WOpD) (e : Int) (L : List (List Pd)) (G : Option (List Pd)) : List (List Pd) × Option (List Pd) :=
  if e ≠ 0 then (L, G) else if a.kind = 1 then (L, some (a.pts.map pdOf)) else if a.kind = 2 then (L ++ G.toList, none) else if a.kind = 4 ∨ a.kind = 5 then ([], none) else (L, G)

/-- What a call leaves on the disk. -/
def Step (J : Jn) (a : WOpD) (L : List (List Pd)) (G : Option (List Pd)) (o : Out) : Prop :=
  ∃ d', o.bay.Up J.slot d' ∧ Keeps d' o.jn (after a o.err L G).1 (after a o.err L G).2 ∧ o.jn.next = J.next + (if a.kind = 2 ∧ o.err = 0 then 1 else 0) ∧ o.jn.slot = J.slot

theorem Step.no {y : Bay} {J : Jn} {d : Dk} {L : List (List Pd)} {G : Option (List Pd)} {a : WOpD} {e : Int} (u : y.Up J.slot d) (h : Keeps d J L G) (he : e ≠ 0) : Step J a L G ⟨e, y, J⟩ := by
  have ea : after a e L G = (L, G) := by unfold after; rw [if_pos he]
  refine ⟨d, u, ?_, ?_, rfl⟩
  · show Keeps d J (after a e L G).1 (after a e L G).2
    rw [ea]
    exact h
  · show J.next = J.next + (if a.kind = 2 ∧ e = 0 then 1 else 0)
    rw [if_neg (fun q => he q.2)]
    rfl

theorem Step.pass {y : Bay} {J : Jn} {d : Dk} {B : Nat} {L : List (List Pd)} {G : Option (List Pd)} {a : WOpD} {ep : Nat} (ok : Ok y J d B) (h : Keeps d J L G) (hk : a.kind = 4 ∨ a.kind = 5) (hep : ep = J.ep ∨ ep = J.ep + 1) : Step J a L G (passJ y J ep) := by
  by_cases hp : J.sure = true ∧ Ck.Ok ⟨ep, J.next, (J.head : Nat)⟩
  · obtain ⟨h1, h2, h3⟩ := ok.passing_ok ep hp.1 hp.2
    have ea : after a (passJ y J ep).err L G = ([], none) := by
      unfold after
      rw [if_neg (fun q => q h1), if_neg (by omega), if_neg (by omega), if_pos hk]
    refine ⟨_, h3.up, ?_, ?_, by rw [h2]; rfl⟩
    · rw [ea, h2]
      exact h.passing ok.lo ok.size hep hp.2 rfl
    · rw [h2, if_neg (by omega)]
      rfl
  · rw [ok.passing_no ep hp]
    refine Step.no ok.up h ?_
    split <;> decide

theorem Keeps.call {y : Bay} {J : Jn} {d : Dk} {B : Nat} {L : List (List Pd)} {G : Option (List Pd)} {a : WOpD} (ok : Ok y J d B) (hB : B ≤ 4611686018427387904) (h : Keeps d J L G) (hb : ∀ p ∈ a.pts, By p.d) : Step J a L G (callJ y J a) := by
  have hn : numsOk J.ep J.next := ⟨Nat.le_trans ok.ep hB, by have := h.nx; omega, Nat.le_trans ok.next hB⟩
  by_cases k1 : a.kind = 1
  · have e : callJ y J a = logJ y J (scErr J.ep J.next a.pts) (a.pts.map pdOf) := by unfold callJ; rw [if_pos k1]
    rw [e]
    have hg : scErr J.ep J.next a.pts = 0 → Sc.Good (a.pts.map pdOf) := fun q => (scErr_zero q hb).2.1
    by_cases h0 : logErr J (scErr J.ep J.next a.pts) (a.pts.map pdOf).length = 0
    case neg =>
      rw [ok.log_no h0]
      exact Step.no ok.up h h0
    have he : scErr J.ep J.next a.pts = 0 := by
      by_cases q : scErr J.ep J.next a.pts = 0
      · exact q
      · unfold logErr at h0
        rw [if_neg (fun k => k ok.br), if_pos q] at h0
        exact h0
    rw [he] at h0 ⊢
    have hfit : 2 * (a.pts.map pdOf).length + 1 ≤ J.S - J.u := by
      unfold logErr at h0
      rw [if_neg (fun q => q ok.br), if_neg (fun q => q rfl)] at h0
      split at h0
      · cases h0
      · split at h0
        · cases h0
        · omega
    obtain ⟨d', h1, h2, _, h4, h5⟩ := ok.log (hg he) h0
    have ea : after a (logJ y J 0 (a.pts.map pdOf)).err L G = (L, some (a.pts.map pdOf)) := by
      unfold after
      rw [if_neg (fun q => q h1), if_pos k1]
    refine ⟨d', h4.up, ?_, ?_, by rw [h2]; rfl⟩
    · rw [ea, h2]
      exact h.logging ok.lo ok.size (hg he) (by have := ok.used; omega) h5
    · rw [h2, if_neg (by omega)]
      rfl
  by_cases k2 : a.kind = 2
  · have e : callJ y J a = sealJ y J := by unfold callJ; rw [if_neg k1, if_pos k2]
    rw [e]
    rcases ok.sealing with ⟨_, q⟩ | ⟨c, d', hc, h1, h2, h3, h4, h5⟩
    · rw [q]
      exact Step.no ok.up h (by decide)
    · cases hG : G with
      | none => rw [h.com, hG] at hc; cases hc
      | some l =>
        subst hG
        obtain rfl : commitOf J l = c := by rw [h.com] at hc; exact Option.some.inj hc
        have ea : after a (sealJ y J).err L (some l) = (L ++ [l], none) := by
          unfold after
          rw [if_neg (fun q => q h1), if_neg k1, if_pos k2]
          rfl
        refine ⟨d', h4.up, ?_, ?_, by rw [h2]; rfl⟩
        · rw [ea, h2]
          exact h.sealing ok.lo (ok.com _ hc).2.2.2 hn h5
        · rw [h2, if_pos ⟨k2, h1⟩]
          rfl
  by_cases k3 : a.kind = 3
  · have e : callJ y J a = syncJ y J := by unfold callJ; rw [if_neg k1, if_neg k2, if_pos k3]
    rw [e]
    have ea : after a (syncJ y J).err L G = (L, G) := by
      unfold after
      split
      · rfl
      · first | rw [if_neg (show ¬ (a.kind = 4 ∨ a.kind = 5) by omega)] | rw [if_neg k1, if_neg k2, if_neg (show ¬ (a.kind = 4 ∨ a.kind = 5) by omega)]
    rcases ok.syncing with ⟨_, q⟩ | ⟨d', hs, h1, h2, h3, h4, h5⟩
    · rw [q] at ea ⊢
      refine ⟨d, ok.up, ?_, ?_, rfl⟩
      · rw [ea]; exact h
      · rw [if_neg (by omega)]; rfl
    · refine ⟨d', h4.up, ?_, ?_, by rw [h2]⟩
      · rw [ea, h2]
        have m := h.moved (d' := d') (by have := ok.lo; omega) (fun k hk => by
          have e2 : d' = { d with last := (d.cache ++ []).foldl Dk.lay d.last, cache := [] } := by rw [h5, List.append_nil]
          rw [now_flushed e2 (by have := ok.size; omega)]
          rfl)
        exact ⟨m.bytes, m.ck, m.cok, m.good, m.nx, m.used, m.laid, m.free, m.com, m.log⟩
      · rw [h2, if_neg (by omega)]
        rfl
  by_cases k4 : a.kind = 4
  · have e : callJ y J a = passJ y J J.ep := by unfold callJ; rw [if_neg k1, if_neg k2, if_neg k3, if_pos k4]
    rw [e]
    exact Step.pass ok h (.inl k4) (.inl rfl)
  by_cases k5 : a.kind = 5
  · have e : callJ y J a = passJ y J (J.ep + 1) := by unfold callJ; rw [if_neg k1, if_neg k2, if_neg k3, if_neg k4, if_pos k5]
    rw [e]
    exact Step.pass ok h (.inr k5) (.inr rfl)
  · have e : callJ y J a = ⟨0, y, J⟩ := by unfold callJ; rw [if_neg k1, if_neg k2, if_neg k3, if_neg k4, if_neg k5]
    rw [e]
    have ea : after a 0 L G = (L, G) := by
      unfold after
      rw [if_neg (by decide), if_neg k1, if_neg k2, if_neg (by omega)]
    refine ⟨d, ok.up, ?_, ?_, rfl⟩
    · show Keeps d J (after a 0 L G).1 (after a 0 L G).2
      rw [ea]; exact h
    · show J.next = J.next + (if a.kind = 2 ∧ (0 : Int) = 0 then 1 else 0)
      rw [if_neg (fun q => k2 q.1)]
      rfl

/-- Behind Format. -/
theorem bg_keeps {n : Nat} (n5 : 5 ≤ n) (n2 : n ≤ 2048) : ∃ d, Ok (bgBay n) (bgJn n) d 3 ∧ Keeps d (bgJn n) [] none := by
  have hu : (twoBay n).Up 0 (Dk.new (2 + n)) := two_up n 0 (.inl rfl)
  obtain ⟨d', h1, _, h3, h4⟩ := fmt_up (s := 0) (d := Dk.new (2 + n)) (B := 3) (n := n) (ep := 1) hu n5 n2 (by show 2 + n ≤ (List.replicate (2 + n) (List.replicate 128 0)).length; rw [List.length_replicate]; omega) (by decide) ⟨by decide, by decide⟩
  obtain ⟨q1, q2, q3, q4⟩ := fresh_at (n := n) (ep := 1) rfl h4
  have hnow : ∀ k, d'.now k = d'.last.getD k [] := fun k => by unfold Dk.now; rw [q4]; rfl
  have hz : ∀ p, p < n → d'.now (2 + p) = Sc.zeros := fun p hp => by rw [hnow]; exact q1 p hp
  refine ⟨d', h3, fun p hp => ?_, ?_, ck1_ok, fun l hl => (by cases hl), Nat.le_refl _, rfl, fun j s hj => (by cases hj), fun p hp hd => ?_, rfl, fun l hl => (by cases hl)⟩
  · rw [hz p hp]
    exact ⟨by simp [Sc.zeros], fun x hx => by rw [(List.mem_replicate.1 hx).2]; decide⟩
  · show d'.now 1 = Ck.enc ⟨1, 1, 0⟩
    rw [hnow]
    exact q2
  · rw [hz p hp] at hd
    exact absurd hd Sc.derr_zeros.2

end Wl
end Go.Proofs.YtkafkdlgflkjgaaGreat

/-
  Two journals side by side, and what a refused call leaves. By an AI agent.
-/
namespace Go.Proofs.YtkafkdlgflkjgaaGreat
open Go.RowKit Go.Maps Crc

section
variable {w0 w : World} {b W D R c V D' R' : Nat} {J J' : Wl.Jn} {cv cv' : Value} {y y' : Bay} {F F' : List Nat} {ts : List Thing}

end

/-- No other disk is to come into the journal's slot. -/
def NoCome (y : Bay) (s : Int) : Prop := (y.slots[s.toNat]?).bind (·.coming) = none

/-- What is to come into the slots is the same. -/
def Calm (y y' : Bay) : Prop := y'.slots.map (·.coming) = y.slots.map (·.coming)

theorem Calm.trans {y y1 y2 : Bay} (h : Calm y y1) (k : Calm y1 y2) : Calm y y2 := Eq.trans k h

theorem Calm.none {y y' : Bay} (h : Calm y y') {s : Int} (hc : NoCome y s) : NoCome y' s := by
  have e := congrArg (fun l => l[s.toNat]?) h
  simp only [List.getElem?_map] at e
  unfold NoCome at hc ⊢
  cases h1 : y.slots[s.toNat]? with
  | none =>
    rw [h1] at e
    cases h2 : y'.slots[s.toNat]? with
    | none => rfl
    | some x => rw [h2] at e; cases e
  | some x =>
    rw [h1] at e hc
    cases h2 : y'.slots[s.toNat]? with
    | none => rfl
    | some x' =>
      rw [h2] at e
      have e : x'.coming = x.coming := Option.some.inj e
      show x'.coming = Option.none
      rw [e]
      exact hc

theorem Calm.setIn (y : Bay) (s : Int) (d : Dev) : Calm y (y.setIn s d) := by
  show (y.slots.modify s.toNat (fun x => { x with inn := some d })).map (·.coming) = y.slots.map (·.coming)
  apply List.ext_getElem?
  intro i
  rw [List.getElem?_map, List.getElem?_map, List.getElem?_modify]
  cases y.slots[i]? with
  | none => rfl
  | some x =>
    by_cases q : s.toNat = i
    · simp [q]
    · simp [q]

theorem Calm.start (y : Bay) (s : Int) (what : Nat) : Calm y (y.start s what) := by
  unfold Bay.start
  split
  · rfl
  split
  · rfl
  split
  · rfl
  split
  · rfl
  · exact Calm.setIn (y.counted what) s _

theorem Calm.write (y : Bay) (s at_ : Int) (x : List Nat) : Calm y (y.write s at_ x) := by
  unfold Bay.write
  split
  · exact Calm.setIn (y.counted 2) s _
  · exact Calm.start y s 2

theorem Calm.flush (y : Bay) (s : Int) : Calm y (y.flush s) := by
  unfold Bay.flush
  split
  · exact Calm.setIn (y.counted 3) s _
  · exact Calm.start y s 3

theorem Calm.wr (s : Int) (io : Wl.Io) (at_ : Int) (x : List Nat) : Calm io.1 (Wl.wr s io at_ x).1 := by
  unfold Wl.wr
  split
  · exact Calm.write _ _ _ _
  · rfl

theorem Calm.fl (s : Int) (io : Wl.Io) : Calm io.1 (Wl.fl s io).1 := by
  unfold Wl.fl
  split
  · exact Calm.flush _ _
  · rfl

theorem Calm.wrs (s : Int) : ∀ (ws : List (Nat × List Nat)) (io : Wl.Io), Calm io.1 (Wl.wrs s io ws).1
  | [], _ => rfl
  | w :: ws, io => (Calm.wr s io (w.1 : Int) w.2).trans (Calm.wrs s ws (Wl.wr s io (w.1 : Int) w.2))

theorem Calm.fmt (y : Bay) (s : Int) (n ep : Nat) : Calm y (Wl.fmtIo y s n ep).1 := ((Calm.wrs s _ (y, 0)).trans (Calm.wr s _ _ _)).trans (Calm.fl s _)

theorem Calm.pass (y : Bay) (J : Wl.Jn) (ep : Nat) : Calm y (Wl.passJ y J ep).bay := by
  unfold Wl.passJ
  split
  · rfl
  split
  · rfl
  split
  · rfl
  · rw [Wl.ends_bay]
    exact (Calm.wr J.slot (y, J.br) _ _).trans (Calm.fl J.slot _)

theorem Calm.call (y : Bay) (J : Wl.Jn) (a : WOpD) : Calm y (Wl.callJ y J a).bay := by
  unfold Wl.callJ
  split
  · unfold Wl.logJ
    split
    · rfl
    · rw [Wl.ends_bay]
      exact (Calm.wrs J.slot _ (y, J.br)).trans (Calm.fl J.slot _)
  split
  · unfold Wl.sealJ
    split
    · rfl
    split
    · rfl
    · rw [Wl.ends_bay]
      exact Calm.wr J.slot (y, J.br) _ _
  split
  · unfold Wl.syncJ
    split
    · rfl
    · rw [Wl.ends_bay]
      exact Calm.fl J.slot (y, J.br)
  split
  · exact Calm.pass y J _
  split
  · exact Calm.pass y J _
  · rfl

theorem bg_come {n : Nat} (n5 : 5 ≤ n) (n2 : n ≤ 2048) : NoCome (Wl.bgBay n) 0 ∧ NoCome (Wl.bgBay n) 1 ∧ (Wl.bgBay n).Up 1 (Dk.new (2 + n)) := by
  have e2 : Wl.twoBay n = ⟨[⟨some ⟨Dk.new (2 + n), none⟩, none, none⟩, ⟨some ⟨Dk.new (2 + n), none⟩, none, none⟩], false, none, 0, 0, 0⟩ := by
    have e : Bay.slotOf ((2 + n : Nat) : Int) = ⟨some ⟨Dk.new (2 + n), none⟩, none, none⟩ := by
      unfold Bay.slotOf
      rw [if_neg (show ¬ ((2 + n : Nat) : Int) = 0 by omega)]
      rfl
    unfold Wl.twoBay Bay.new
    rw [List.map_cons, List.map_cons, e]
    rfl
  obtain ⟨d', _, h2, _, _⟩ := Wl.fmt_up (s := 0) (d := Dk.new (2 + n)) (B := 3) (n := n) (ep := 1) (Wl.two_up n 0 (.inl rfl)) n5 n2 (by show 2 + n ≤ (List.replicate (2 + n) (List.replicate 128 0)).length; rw [List.length_replicate]; omega) (by decide) ⟨by decide, by decide⟩
  have c := Calm.fmt (Wl.twoBay n) 0 n 1
  have hu := Wl.two_up n 1 (.inr rfl)
  exact ⟨c.none (by unfold NoCome; rw [e2]; rfl), c.none (by unfold NoCome; rw [e2]; rfl), (h2.other 1 (by decide)).trans hu.dev, hu.bad, h2.up.dark, h2.up.trip⟩

theorem Wl.call_ok {y : Bay} {J : Wl.Jn} {d : Dk} {B : Nat} {a : WOpD} (h : Wl.Ok y J d B) (hb : ∀ p ∈ a.pts, By p.d) : (∃ d', Wl.Ok (Wl.callJ y J a).bay (Wl.callJ y J a).jn d' (B + 1)) ∧ (Wl.callJ y J a).jn.slot = J.slot ∧ (Wl.callJ y J a).jn.S = J.S := by
  unfold Wl.callJ
  split
  · have c := h.logCosts (e := scErr J.ep J.next a.pts) (l := a.pts.map pdOf) (fun q => (scErr_zero q hb).2.1)
    exact ⟨c.ok, c.slot, c.size⟩
  split
  · exact ⟨h.sealCosts.ok, h.sealCosts.slot, h.sealCosts.size⟩
  split
  · exact ⟨h.syncCosts.2.ok, h.syncCosts.2.slot, h.syncCosts.2.size⟩
  split
  · have c := h.passCosts J.ep (Nat.le_succ_of_le h.ep)
    exact ⟨c.ok, c.slot, c.size⟩
  split
  · have c := h.passCosts (J.ep + 1) (by have := h.ep; omega)
    exact ⟨c.ok, c.slot, c.size⟩
  · exact ⟨⟨d, h.more⟩, rfl, rfl⟩

end Go.Proofs.YtkafkdlgflkjgaaGreat

/-
  What a journal's disk has in its cache, and what a cut leaves. No function of the program is named here. By an AI agent.
-/
namespace Go.Proofs.YtkafkdlgflkjgaaGreat
open Crc
namespace Wl

/-- In the cache is nothing, or the last seal alone; so many batches are sure. -/
def Dur (d : Dk) (J : Jn) (L : List (List Pd)) (sr : Nat) : Prop :=
  (d.cache = [] ∧ sr ≤ L.length) ∨
  (J.commit = none ∧ J.sure = false ∧ ∃ w J0 L0 l, d.cache = [w] ∧ L = L0 ++ [l] ∧ sr ≤ L0.length ∧ Keeps { d with cache := [] } J0 L0 (some l) ∧ J0.S = J.S ∧ J0.t < J0.S ∧ J0.u ≤ J0.S ∧ J0.next + 1 = J.next ∧ J0.ep = J.ep ∧ J0.t = J.t ∧ J0.u ≤ J.u)

theorem Dur.call {y : Bay} {J : Jn} {d : Dk} {B : Nat} {L : List (List Pd)} {G : Option (List Pd)} {sr : Nat} {a : WOpD} (ok : Ok y J d B) (h : Keeps d J L G) (u : Dur d J L sr) (hb : ∀ p ∈ a.pts, By p.d) (hk : a.kind < 4) :
    ∃ d', (callJ y J a).bay.Up J.slot d' ∧ Dur d' (callJ y J a).jn (after a (callJ y J a).err L G).1 (if (callJ y J a).err = 0 ∧ (a.kind = 1 ∨ a.kind = 3) then L.length else sr) := by
  have same : ∀ e : Int, e ≠ 0 → ∃ d', y.Up J.slot d' ∧ Dur d' J (after a e L G).1 (if e = 0 ∧ (a.kind = 1 ∨ a.kind = 3) then L.length else sr) := fun e he => by
    have ea : after a e L G = (L, G) := by unfold after; rw [if_pos he]
    rw [ea, if_neg (fun q => he q.1)]
    exact ⟨d, ok.up, u⟩
  by_cases k1 : a.kind = 1
  · have e : callJ y J a = logJ y J (scErr J.ep J.next a.pts) (a.pts.map pdOf) := by unfold callJ; rw [if_pos k1]
    rw [e]
    by_cases h0 : logErr J (scErr J.ep J.next a.pts) (a.pts.map pdOf).length = 0
    case neg =>
      rw [ok.log_no h0]
      exact same _ h0
    have he : scErr J.ep J.next a.pts = 0 := by
      by_cases q : scErr J.ep J.next a.pts = 0
      · exact q
      · unfold logErr at h0
        rw [if_neg (fun k => k ok.br), if_pos q] at h0
        exact h0
    have hg := (scErr_zero he hb).2.1
    rw [he] at h0 ⊢
    obtain ⟨d', h1, h2, _, h4, h5⟩ := ok.log hg h0
    have ea : after a (logJ y J 0 (a.pts.map pdOf)).err L G = (L, some (a.pts.map pdOf)) := by unfold after; rw [if_neg (fun q => q h1), if_pos k1]
    rw [ea, if_pos ⟨h1, .inl k1⟩]
    exact ⟨d', h4.up, .inl ⟨by rw [h5], Nat.le_refl _⟩⟩
  by_cases k2 : a.kind = 2
  · have e : callJ y J a = sealJ y J := by unfold callJ; rw [if_neg k1, if_pos k2]
    rw [e]
    rcases ok.sealing with ⟨_, q⟩ | ⟨c, d', hc, h1, h2, h3, h4, h5⟩
    · rw [q]
      exact same 1 (by decide)
    · cases hG : G with
      | none => rw [h.com, hG] at hc; cases hc
      | some l =>
        subst hG
        have ea : after a (sealJ y J).err L (some l) = (L ++ [l], none) := by unfold after; rw [if_neg (fun q => q h1), if_neg k1, if_pos k2]; rfl
        rw [ea, if_neg (by omega), h2]
        rcases u with ⟨u1, u2⟩ | ⟨u1, _⟩
        · refine ⟨d', h4.up, .inr ⟨rfl, rfl, _, J, L, l, by rw [h5, u1]; rfl, rfl, u2, ?_, rfl, ok.tail, ok.used, rfl, rfl, rfl, Nat.le_add_right _ _⟩⟩
          have ed : ({ d' with cache := [] } : Dk) = d := by
            rw [h5]
            cases d
            simp only at u1
            subst u1
            rfl
          rw [ed]
          exact h
        · rw [hc] at u1; cases u1
  by_cases k3 : a.kind = 3
  · have e : callJ y J a = syncJ y J := by unfold callJ; rw [if_neg k1, if_neg k2, if_pos k3]
    rw [e]
    have ea : after a (syncJ y J).err L G = (L, G) := by
      unfold after
      split
      · rfl
      · first | rw [if_neg (show ¬ (a.kind = 4 ∨ a.kind = 5) by omega)] | rw [if_neg k1, if_neg k2, if_neg (show ¬ (a.kind = 4 ∨ a.kind = 5) by omega)]
    rw [ea]
    rcases ok.syncing with ⟨hs, q⟩ | ⟨d', hs, h1, h2, h3, h4, h5⟩
    · rw [q, if_pos ⟨rfl, .inr k3⟩]
      rcases u with ⟨u1, _⟩ | ⟨_, u2, _⟩
      · exact ⟨d, ok.up, .inl ⟨u1, Nat.le_refl _⟩⟩
      · rw [hs] at u2; cases u2
    · rw [if_pos ⟨h1, .inr k3⟩]
      exact ⟨d', h4.up, .inl ⟨by rw [h5], Nat.le_refl _⟩⟩
  · have e : callJ y J a = ⟨0, y, J⟩ := by unfold callJ; rw [if_neg k1, if_neg k2, if_neg k3, if_neg (by omega), if_neg (by omega)]
    rw [e]
    have ea : after a 0 L G = (L, G) := by unfold after; rw [if_neg (by decide), if_neg k1, if_neg k2, if_neg (by omega)]
    show ∃ d', y.Up J.slot d' ∧ Dur d' J (after a 0 L G).1 (if (0 : Int) = 0 ∧ (a.kind = 1 ∨ a.kind = 3) then L.length else sr)
    rw [ea, if_neg (by omega)]
    exact ⟨d, ok.up, u⟩

/-- Behind a cut. -/
theorem Dur.cut {y : Bay} {J : Jn} {d : Dk} {B : Nat} {L : List (List Pd)} {G : Option (List Pd)} {sr : Nat} (ok : Ok y J d B) (hB : B ≤ 4611686018427387904) (h : Keeps d J L G) (u : Dur d J L sr) (keep : List Bool) :
    ∃ Jf Lf Gf, Keeps ({ d with last := (Dk.kept keep 0 d.cache).foldl Dk.lay d.last, cache := [] } : Dk) Jf Lf Gf ∧ Lf = L.take Lf.length ∧ sr ≤ Lf.length ∧ Lf.length ≤ L.length ∧ Jf.next - Lf.length = J.next - L.length ∧ Lf.length ≤ Jf.next ∧ Jf.S = J.S ∧ Jf.t < Jf.S ∧ Jf.u ≤ Jf.S ∧ numsOk Jf.ep Jf.next ∧ Jf.next ≤ J.next ∧ Jf.ep = J.ep := by
  have hn : numsOk J.ep J.next := ⟨Nat.le_trans ok.ep hB, by have := h.nx; omega, Nat.le_trans ok.next hB⟩
  have hx := h.nx
  rcases u with ⟨u1, u2⟩ | ⟨_, _, w, J0, L0, l, u1, u2, u3, u4, u5, u6, u7, u8, u9, _, _⟩
  · have ed : ({ d with last := (Dk.kept keep 0 d.cache).foldl Dk.lay d.last, cache := [] } : Dk) = d := by
      rw [u1]
      cases d
      simp only at u1
      subst u1
      rfl
    rw [ed]
    exact ⟨J, L, G, h, (List.take_length).symm, u2, Nat.le_refl _, rfl, by omega, rfl, ok.tail, ok.used, hn, Nat.le_refl _, rfl⟩
  · by_cases q : keep.getD 0 false = true
    · have ed : ({ d with last := (Dk.kept keep 0 d.cache).foldl Dk.lay d.last, cache := [] } : Dk) = { d with last := (d.cache ++ []).foldl Dk.lay d.last, cache := [] } := by
        have : Dk.kept keep 0 d.cache = d.cache := by rw [u1]; unfold Dk.kept; rw [if_pos q]; rfl
        rw [this, List.append_nil]
      rw [ed]
      refine ⟨J, L, G, h.moved (by have := ok.lo; omega) (fun k hk => ?_), (List.take_length).symm, by rw [u2, List.length_append, List.length_singleton]; omega, Nat.le_refl _, rfl, by omega, rfl, ok.tail, ok.used, hn, Nat.le_refl _, rfl⟩
      rw [now_flushed rfl (by have := ok.size; omega)]
      rfl
    · have ed : ({ d with last := (Dk.kept keep 0 d.cache).foldl Dk.lay d.last, cache := [] } : Dk) = { d with cache := [] } := by
        have : Dk.kept keep 0 d.cache = [] := by rw [u1]; unfold Dk.kept; rw [if_neg q]; rfl
        rw [this]
        rfl
      rw [ed]
      have h4 := u4.nx
      have e1 : L.length = L0.length + 1 := by rw [u2, List.length_append, List.length_singleton]
      refine ⟨J0, L0, some l, u4, by rw [u2, List.take_left], u3, by omega, by omega, by omega, u5, u6, u7, ⟨by rw [u9]; exact hn.1, by omega, by have := hn.2.2; omega⟩, by omega, u9⟩


/-- Behind Sync. -/
theorem Keeps.synced {y : Bay} {J : Jn} {d : Dk} {B : Nat} {L : List (List Pd)} {G : Option (List Pd)} (ok : Ok y J d B) (h : Keeps d J L G) :
    ∃ d1, Ok (syncJ y J).bay (syncJ y J).jn d1 B ∧ Keeps d1 (syncJ y J).jn L G ∧ (syncJ y J).jn.sure = true ∧ (syncJ y J).jn.slot = J.slot ∧ (syncJ y J).jn.S = J.S ∧ (syncJ y J).jn.ep = J.ep ∧ (syncJ y J).jn.next = J.next := by
  rcases ok.syncing with ⟨hs, q⟩ | ⟨d', hs, h1, h2, h3, h4, h5⟩
  · rw [q]
    exact ⟨d, ok, h, hs, rfl, rfl, rfl, rfl⟩
  · rw [h2]
    have m := h.moved (d' := d') (by have := ok.lo; omega) (fun k hk => by
      have e2 : d' = { d with last := (d.cache ++ []).foldl Dk.lay d.last, cache := [] } := by rw [h5, List.append_nil]
      rw [now_flushed e2 (by have := ok.size; omega)]
      rfl)
    exact ⟨d', h3, ⟨m.bytes, m.ck, m.cok, m.good, m.nx, m.used, m.laid, m.free, m.com, m.log⟩, rfl, rfl, rfl, rfl, rfl⟩

/-- A checkpoint, when all is sure. -/
theorem Keeps.fresh {y : Bay} {J : Jn} {d : Dk} {B : Nat} {L : List (List Pd)} {G : Option (List Pd)} (ok : Ok y J d B) (hB : B ≤ 4611686018427387000) (h : Keeps d J L G) (hs : J.sure = true) {ep : Nat} (hep : ep = J.ep ∨ ep = J.ep + 1) :
    (passJ y J ep).err = 0 ∧ ∃ d', Ok (passJ y J ep).bay (passJ y J ep).jn d' (B + 1) ∧ Keeps d' (passJ y J ep).jn [] none ∧ Dur d' (passJ y J ep).jn [] 0 ∧ (passJ y J ep).jn.slot = J.slot ∧ (passJ y J ep).jn.S = J.S ∧ (passJ y J ep).jn.next = J.next := by
  have h1 := ok.ep
  have h2 := ok.next
  have h3 := h.nx
  have h4 : J.head < J.S := Nat.mod_lt _ (by have := ok.lo; omega)
  have h5 := ok.hi
  have hok : Ck.Ok ⟨ep, J.next, (J.head : Nat)⟩ := ⟨⟨by show ep ≤ 4611686018427387904; omega, by show 1 ≤ J.next; omega, by show J.next ≤ 4611686018427387904; omega⟩, by show (0 : Int) ≤ (J.head : Nat); omega, by show ((J.head : Nat) : Int) ≤ 2047; omega⟩
  obtain ⟨e1, e2, e3⟩ := ok.passing_ok ep hs hok
  rcases ok.passing ep (by omega) with ⟨q, _⟩ | ⟨d', _, _, _, q2, q3, q4, q5⟩
  · exact absurd e1 q
  · refine ⟨e1, d', by rw [q2]; exact q3, by rw [q2]; exact h.passing ok.lo ok.size hep hok q5, .inl ⟨by rw [q5], Nat.le_refl _⟩, by rw [q2]; rfl, by rw [q2]; rfl, by rw [q2]; rfl⟩

end Wl
end Go.Proofs.YtkafkdlgflkjgaaGreat
