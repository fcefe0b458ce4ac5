/-
  WalUnsealed's walk. By an AI agent.
-/
import Derived.Test.YtkafkdlgflkjgaaGreatBWlAre
import Derived.Test.YtkafkdlgflkjgaaGreatBWlLawI
import Derived.Test.YtkafkdlgflkjgaaGreatBByCalls
import Derived.Test.YtkafkdlgflkjgaaGreatBWlLawC
namespace Go.Proofs.YtkafkdlgflkjgaaGreat
open Go.RowKit Go.Maps Crc

/-- A slice of patches reads as a batch. -/
def PRel (w : World) (u : Value) (l : List Pd) : Prop := ∃ ps, Pts w u ps ∧ ps.map pdOf = l ∧ ∀ p ∈ ps, PdIs p (pdOf p)

theorem PRel.chg {w w' : World} {u : Value} {l : List Pd} (h : PRel w u l) (c : Chg [] w w') : PRel w' u l := by
 obtain ⟨ps, h1, h2, h3⟩ := h
 exact ⟨ps, h1.chg c, h2, h3⟩

/-- How a journal stands, and what is kept of it. -/
structure USt (w : World) (es : List WOpD) (n j : Nat) (y : Bay) (J : Wl.Jn) (L : List (List Pd)) (G : Option (List Pd)) (vals : List Value) (lv : Value) : Prop where
 st : ∃ d B Lw, CSt es n j y J d B Lw ∧ Wl.Keeps d J L G
 come : NoCome y 0
 calm : Calm (Wl.twoBay n) y
 len : vals.length = L.length
 rel : ∀ (i : Nat) (u : Value) (l : List Pd), vals[i]? = some u → L[i]? = some l → PRel w u l
 log : ∀ l, G = some l → PRel w lv l
 sl : ∃ o n c, lv = .slice o n c

theorem USt.begin {w : World} {es : List WOpD} {n : Nat} (n5 : 5 ≤ n) (n2 : n ≤ 2048) : USt w es n 0 (Wl.bgBay n) (Wl.bgJn n) [] none [] (.slice none 0 0) := by
 obtain ⟨d, ok, k⟩ := Wl.bg_keeps n5 n2
 exact ⟨⟨d, 3, 2050, ⟨ok, Nat.le_refl _, (Wl.fmtIo_low (Bay.new_low _) 0 n 1).mono (by omega), by omega, rfl, rfl⟩, k⟩, (bg_come n5 n2).1, Calm.fmt _ _ _ _, rfl, fun i u l h => (by simp at h), fun l h => (by cases h), ⟨_, _, _, rfl⟩⟩

section
variable {w : World} {es : List WOpD} {n j : Nat} {y : Bay} {J : Wl.Jn} {L : List (List Pd)} {G : Option (List Pd)} {vals : List Value} {lv : Value} {a : WOpD}

theorem USt.low (h : USt w es n j y J L G vals lv) (hw : wopW es es.length ≤ 5000) : y.Low 20000 := by
 obtain ⟨d, B, Lw, s, k⟩ := h.st
 exact s.low.mono (s.bound hw)

theorem USt.fit (h : USt w es n j y J L G vals lv) (hj : j ≤ 5000) : J.Fit ∧ J.slot = 0 ∧ J.S = n ∧ J.next ≤ 5003 ∧ L.length ≤ 5003 := by
 obtain ⟨d, B, Lw, s, k⟩ := h.st
 have h1 := s.ok.next
 have h2 := s.b
 have h3 := k.nx
 exact ⟨s.fit (by omega), s.slot, s.size, by omega, by omega⟩

theorem USt.call (h : USt w es n j y J L G vals lv) (hj : j ≤ 100000) (ha : es[j]? = some a) (hb : ∀ p ∈ a.pts, By p.d) (hp : Pts w a.ptsV a.pts) :
 ((Wl.callJ y J a).err ≠ 0 → USt w es n (j + 1) (Wl.callJ y J a).bay (Wl.callJ y J a).jn L G vals lv) ∧
 ((Wl.callJ y J a).err = 0 → ∃ L' G', USt w es n (j + 1) (Wl.callJ y J a).bay (Wl.callJ y J a).jn L' G' (lifeV a.kind lv vals) (lifeL a.kind lv a.ptsV)) := by
 obtain ⟨d, B, Lw, s, k⟩ := h.st
 obtain ⟨d', B', L', s'⟩ := s.call ha hb
 obtain ⟨x, u, k', hn, hs⟩ := k.call (a := a) s.ok (by have := s.b; omega) hb
 have u' := s'.ok.up
 rw [hs] at u'
 have e : d' = x := by have := u'.dev.symm.trans u.dev; simpa using this
 subst e
 have hc := (Calm.call y J a).none h.come
 have hm := h.calm.trans (Calm.call y J a)
 refine ⟨fun he => ?_, fun he => ?_⟩
 ·have ea : Wl.after a (Wl.callJ y J a).err L G = (L, G) := by unfold Wl.after; rw [if_pos he]
  rw [ea] at k'
  exact ⟨⟨d', B', L', s', k'⟩, hc, hm, h.len, h.rel, h.log, h.sl⟩
 ·by_cases k1 : a.kind = 1
  ·have ea : Wl.after a (Wl.callJ y J a).err L G = (L, some (a.pts.map pdOf)) := by unfold Wl.after; rw [if_neg (fun q => q he), if_pos k1]
   rw [ea] at k'
   have e1 : Wl.callJ y J a = Wl.logJ y J (scErr J.ep J.next a.pts) (a.pts.map pdOf) := by unfold Wl.callJ; rw [if_pos k1]
   have e0 : scErr J.ep J.next a.pts = 0 := log_err0 (by rw [← e1]; exact he)
   have hv : lifeV a.kind lv vals = vals := by unfold lifeV; rw [if_neg (by omega), if_neg (by omega)]
   have hl : lifeL a.kind lv a.ptsV = a.ptsV := by unfold lifeL; rw [if_pos k1]
   rw [hv, hl]
   obtain ⟨o, c, q⟩ := hp.slice
   exact ⟨L, some (a.pts.map pdOf), ⟨d', B', L', s', k'⟩, hc, hm, h.len, h.rel, fun l hl => by
    obtain rfl := Option.some.inj hl
    exact ⟨a.pts, hp, rfl, (scErr_zero e0 hb).2.2⟩, ⟨o, _, c, q⟩⟩
  by_cases k2 : a.kind = 2
  ·have ea : Wl.after a (Wl.callJ y J a).err L G = (L ++ G.toList, none) := by unfold Wl.after; rw [if_neg (fun q => q he), if_neg k1, if_pos k2]
   rw [ea] at k'
   have e1 : Wl.callJ y J a = Wl.sealJ y J := by unfold Wl.callJ; rw [if_neg k1, if_pos k2]
   obtain ⟨l, hG⟩ : ∃ l, G = some l := by
    rcases s.ok.sealing with ⟨_, q⟩ | ⟨c, _, q, _⟩
    ·rw [e1, q] at he
     cases he
    ·rw [k.com] at q
     cases hG : G with
     | none => rw [hG] at q; cases q
     | some l => exact ⟨l, rfl⟩
   subst hG
   have hv : lifeV a.kind lv vals = vals ++ [lv] := by unfold lifeV; rw [if_pos k2]
   have hl : lifeL a.kind lv a.ptsV = .slice none 0 0 := by unfold lifeL; rw [if_neg k1, if_pos (.inl k2)]
   rw [hv, hl]
   refine ⟨L ++ [l], none, ⟨d', B', L', s', k'⟩, hc, hm, by rw [List.length_append, List.length_append, h.len]; rfl, fun i u l' hu hl' => ?_, fun l' hl' => (by cases hl'), ⟨_, _, _, rfl⟩⟩
   by_cases q : i < vals.length
   ·rw [List.getElem?_append_left q] at hu
    rw [List.getElem?_append_left (by rw [← h.len]; exact q)] at hl'
    exact h.rel i u l' hu hl'
   ·rw [List.getElem?_append_right (by omega)] at hu
    rw [List.getElem?_append_right (by rw [← h.len]; omega), ← h.len] at hl'
    obtain ⟨m, hm⟩ : ∃ m, m = i - vals.length := ⟨_, rfl⟩
    rw [← hm] at hu hl'
    cases m with
    | zero =>
      obtain rfl : lv = u := by simpa using hu
      obtain rfl : l = l' := by simpa using hl'
      exact h.log l rfl
    | succ m => simp at hu
  by_cases k4 : a.kind = 4 ∨ a.kind = 5
  ·have ea : Wl.after a (Wl.callJ y J a).err L G = ([], none) := by unfold Wl.after; rw [if_neg (fun q => q he), if_neg k1, if_neg k2, if_pos k4]
   rw [ea] at k'
   have hv : lifeV a.kind lv vals = [] := by unfold lifeV; rw [if_neg k2, if_pos k4]
   have hl : lifeL a.kind lv a.ptsV = .slice none 0 0 := by unfold lifeL; rw [if_neg k1, if_pos (.inr k4)]
   rw [hv, hl]
   exact ⟨[], none, ⟨d', B', L', s', k'⟩, hc, hm, rfl, fun i u l h => (by simp at h), fun l h => (by cases h), ⟨_, _, _, rfl⟩⟩
  ·have ea : Wl.after a (Wl.callJ y J a).err L G = (L, G) := by unfold Wl.after; rw [if_neg (fun q => q he), if_neg k1, if_neg k2, if_neg k4]
   rw [ea] at k'
   have hv : lifeV a.kind lv vals = vals := by unfold lifeV; rw [if_neg k2, if_neg k4]
   have hl : lifeL a.kind lv a.ptsV = lv := by unfold lifeL; rw [if_neg k1, if_neg (by rcases Classical.em (a.kind = 2) with q | q; exact absurd q k2; exact fun m => m.elim q k4)]
   rw [hv, hl]
   exact ⟨L, G, ⟨d', B', L', s', k'⟩, hc, hm, h.len, h.rel, h.log, h.sl⟩

theorem Calm.log (y : Bay) (J : Wl.Jn) (e : Int) (l : List Pd) : Calm y (Wl.logJ y J e l).bay := by
 unfold Wl.logJ
 split
 ·rfl
 ·rw [Wl.ends_bay]
  exact (Calm.wrs J.slot _ (y, J.br)).trans (Calm.fl J.slot _)

theorem wl_low_cut {k : Nat} {y : Bay} (h : y.Low k) (hc : ∀ (i : Nat) (hi : i < y.slots.length), y.slots[i].coming = none) (keeps : List (List Bool)) : (y.cut keeps).Low k := by
 refine ⟨fun r d hd => ?_, h.reads, h.writes, h.flushes⟩
 have hr := Bay.dev_is hd
 rw [Bay.cut_is] at hr
 obtain ⟨i, rfl, hi⟩ := Bay.is_some hr
 rw [Bay.cut_dev keeps hi] at hd
 unfold Bay.cutSlot at hd
 rw [hc i hi] at hd
 simp only at hd
 cases hin : y.slots[i].inn with
 | none => rw [hin] at hd; cases hd
 | some e =>
   rw [hin] at hd
   obtain rfl : e.lay (e.disk.crash (keeps.getD i [])) = d := by simpa using hd
   have h1 : y.dev i = some e := by
    rw [Bay.slot_dev (x := y.slots[i]) hr (by rw [Int.toNat_natCast]; exact List.getElem?_eq_getElem hi), hin]
   exact Nat.le_trans (Bay.crash_cache _ _) (h.caches _ _ h1)

/-- A Log that is not refused, and the power that goes behind it. -/
theorem USt.last (h : USt w es n j y J L G vals lv) (hj : j ≤ 100000) {ps : List PtD} (hb : ∀ p ∈ ps, By p.d) (h0 : (Wl.logJ y J (scErr J.ep J.next ps) (ps.map pdOf)).err = 0) (keeps : List (List Bool)) {w0 w' : World} {b : Nat} {ts : List Thing} {e : Ending}
 (hO : Opnd w0 b ((Wl.logJ y J (scErr J.ep J.next ps) (ps.map pdOf)).bay.cut keeps) 0 (n : Int) ts e w') :
 ∃ d J', Again w0 b ((Wl.logJ y J (scErr J.ep J.next ps) (ps.map pdOf)).bay.cut keeps) 0 d J' L ts e w' ∧ J'.next = J.next ∧ J'.Fit ∧ (Wl.logJ y J (scErr J.ep J.next ps) (ps.map pdOf)).jn.next = J.next ∧ J.next - L.length + L.length = J.next ∧ ∀ l ∈ L, Sc.Good l := by
 obtain ⟨d, B, Lw, s, k⟩ := h.st
 have he : scErr J.ep J.next ps = 0 := log_err0 h0
 have hg := (scErr_zero he hb).2.1
 rw [he] at h0 hO ⊢
 have hz : Wl.logErr J 0 (ps.map pdOf).length = 0 := by
  by_cases q : Wl.logErr J 0 (ps.map pdOf).length = 0
  ·exact q
  ·rw [s.ok.log_no q] at h0
   exact absurd h0 q
 have hfit : 2 * (ps.map pdOf).length + 1 ≤ J.S - J.u := by
  unfold Wl.logErr at hz
  rw [if_neg (fun q => q s.ok.br), if_neg (fun q => q rfl)] at hz
  split at hz
  ·cases hz
  ·split at hz
   ·cases hz
   ·omega
 obtain ⟨d', h1, h2, h3, h4, h5⟩ := s.ok.log hg hz
 have k' := k.logging s.ok.lo s.ok.size hg (by have := s.ok.used; omega) h5
 have hu := h4.up
 rw [s.slot] at hu
 have hc : NoCome (Wl.logJ y J 0 (ps.map pdOf)).bay 0 := by
  have m := h4.come
  rw [s.slot] at m
  unfold NoCome
  rw [m]
  exact h.come
 obtain ⟨u2, _⟩ := Wl.up_cut hu hc keeps
 have e5 : d'.cache = [] := by rw [h5]
 have ed : ({ d' with last := (Dk.kept (keeps.getD (0 : Int).toNat []) 0 d'.cache).foldl Dk.lay d'.last, cache := [] } : Dk) = d' := by
  rw [e5, show Dk.kept (keeps.getD (0 : Int).toNat []) 0 [] = [] from rfl, List.foldl_nil]
  cases d'
  simp only at e5
  subst e5
  rfl
 rw [ed] at u2
 have q1 := s.ok.next
 have q2 := s.ok.ep
 have q3 := s.b
 have q4 := k.nx
 have hz2 := s.size
 rw [← hz2] at hO
 have sz := h3.size
 have ag := opnd_keeps (J := Wl.logged J (ps.map pdOf)) hO u2 k' h3.lo h3.hi h3.tail sz h3.used ⟨Nat.le_trans q2 (by omega), by show 1 ≤ J.next; omega, Nat.le_trans q1 (by omega)⟩
 exact ⟨d', Wl.logged J (ps.map pdOf), ag, rfl, h3.fit (by omega), by rw [h2]; rfl, by omega, k.good⟩

end

/-- A journal in memory, and what is kept of it beside it. -/
def RLife (w0 : World) (b W D R : Nat) (J : Wl.Jn) (y : Bay) (x : Nat) (vals : List Value) (lv : Value) (w' : World) : Prop :=
 ∃ cv F so sc sr, Side w0 w' (jts b W D R J cv y F (lifeT x (.slice so vals.length sc) sr lv :: ownT 58 (.slice so vals.length sc) vals :: []))

section
variable {w0 w' : World} {b W D R x : Nat} {J : Wl.Jn} {y : Bay} {vals : List Value} {lv : Value}

theorem RLife.chg (h : RLife w0 b W D R J y x vals lv w') : Chg [] w0 w' := by
 obtain ⟨cv, F, so, sc, sr, H⟩ := h
 exact H.chg

theorem RLife.quiet {w'' : World} (h : RLife w0 b W D R J y x vals lv w') (c : Chg [] w' w'') : RLife w0 b W D R J y x vals lv w'' := by
 obtain ⟨cv, F, so, sc, sr, H⟩ := h
 exact ⟨cv, F, so, sc, sr, H.quiet c⟩

theorem RLife.make {cv : Value} {F : List Nat} (H : Side w0 w' (jts b W D R J cv y F [])) : RLife w0 b W D R J y w'.heap.size [] (.slice none 0 0) (w'.alloc (.cells #[.slice none 0 0, .int .i64 0, .slice none 0 0] 81)) := by
 have h1 := H.behind 81 [.slice none 0 0, .int .i64 0, .slice none 0 0]
 have h2 := h1.add (b := ownT 58 (.slice none 0 0) []) (Chg.refl _ _) (World.ownsRow_nil _ _ _ _) (fun k hk => by cases hk)
 exact ⟨cv, F, none, 0, 0, h2.perm (by
  show ([_] ++ [_, _, _, _, _, _]).Perm ([_, _, _, _, _, _] ++ [_])
  exact List.perm_append_comm)⟩

end

theorem pts_alike {l : List Pd} {ps : List PtD} {t : List Pv} (h1 : ps.map pdOf = l) (h2 : ∀ p ∈ ps, PdIs p (pdOf p)) (h3 : dOf t = l) : t.length = ps.length ∧ ∀ (i : Nat) (p q : PtD), (t.map toPt)[i]? = some p → ps[i]? = some q → p.alike q := by
 refine ⟨by have a := congrArg List.length h1; have b := congrArg List.length h3; unfold dOf at b; rw [List.length_map] at a b; omega, fun i p q hp hq => ?_⟩
 rw [List.getElem?_map] at hp
 obtain ⟨x, hx, rfl⟩ := Option.map_eq_some_iff.1 hp
 have e1 : l[i]? = some x.1 := by rw [← h3]; unfold dOf; rw [List.getElem?_map, hx]; rfl
 have e2 : l[i]? = some (pdOf q) := by rw [← h1, List.getElem?_map, hq]; rfl
 have e : x.1 = pdOf q := Option.some.inj (e1.symm.trans e2)
 have k := h2 q (List.mem_of_getElem? hq)
 unfold toPt PtD.alike
 rw [e]
 exact ⟨k.m.symm, k.r.symm, k.d.symm⟩

end Go.Proofs.YtkafkdlgflkjgaaGreat

/-
  WalForgets' walk. By an AI agent.
-/
namespace Go.Proofs.YtkafkdlgflkjgaaGreat
open Go.RowKit Go.Maps Crc

/-- How a journal stands behind a checkpoint and so many ops, and what is kept of it. -/
structure FgSt (w : World) (fs : List WOpD) (n m : Nat) (y : Bay) (J : Wl.Jn) (L : List (List Pd)) (G : Option (List Pd)) (sr : Nat) (vals : List Value) (lv : Value) (base : Nat) : Prop where
 st : ∃ d, Wl.Ok y J d (6000 + m) ∧ Wl.Keeps d J L G ∧ Wl.Dur d J L sr
 slot : J.slot = 0
 size : J.S = n
 calm : Calm (Wl.twoBay n) y
 low : y.Low (21000 + 3 * wopW fs m)
 len : vals.length = L.length
 rel : ∀ (i : Nat) (u : Value) (l : List Pd), vals[i]? = some u → L[i]? = some l → PRel w u l
 log : ∀ l, G = some l → PRel w lv l
 sl : ∃ o n c, lv = .slice o n c
 base : J.next = base + L.length

theorem Wl.fcallJ_low {y : Bay} {J : Wl.Jn} {a : WOpD} {L : Nat} (h : y.Low L) : (Wl.callJ y J a).bay.Low (L + 3 * a.weight) := by
 have hw : 1 + a.pts.length ≤ a.weight := by unfold WOpD.weight; omega
 unfold Wl.callJ
 split
 ·have := Wl.logJ_low h J (scErr J.ep J.next a.pts) (a.pts.map pdOf)
  rw [List.length_map] at this
  exact this.mono (by omega)
 split
 ·exact (Wl.sealJ_low h J).mono (by omega)
 split
 ·exact (Wl.syncJ_low h J).mono (by omega)
 split
 ·exact (Wl.passJ_low h J J.ep).mono (by omega)
 split
 ·exact (Wl.passJ_low h J (J.ep + 1)).mono (by omega)
 ·exact h.mono (by omega)

theorem Wl.Ok.upto {y : Bay} {J : Wl.Jn} {d : Dk} {B C : Nat} (h : Wl.Ok y J d B) (k : B ≤ C) : Wl.Ok y J d C := ⟨h.up, h.size, h.lo, h.hi, h.tail, h.used, h.br, Nat.le_trans h.next k, Nat.le_trans h.ep k, h.com, h.cost⟩

section
variable {w : World} {fs : List WOpD} {n m : Nat} {y : Bay} {J : Wl.Jn} {L : List (List Pd)} {G : Option (List Pd)} {sr : Nat} {vals : List Value} {lv : Value} {a : WOpD} {base : Nat}

theorem FgSt.idle (h : FgSt w fs n m y J L G sr vals lv base) (ha : fs[m]? = some a) : FgSt w fs n (m + 1) y J L G sr vals lv base := by
 obtain ⟨d, s, k, u⟩ := h.st
 exact ⟨⟨d, s.upto (by omega), k, u⟩, h.slot, h.size, h.calm, h.low.mono (by rw [wopW_succ ha]; omega), h.len, h.rel, h.log, h.sl, h.base⟩

theorem FgSt.fit (h : FgSt w fs n m y J L G sr vals lv base) (hm : m ≤ 5000) : J.Fit ∧ L.length ≤ 11000 ∧ J.next ≤ 11000 := by
 obtain ⟨d, s, k, u⟩ := h.st
 have h1 := s.next
 have h2 := k.nx
 exact ⟨s.fit (by omega), by omega, by omega⟩

theorem FgSt.call (h : FgSt w fs n m y J L G sr vals lv base) (hm : m ≤ 5000) (ha : fs[m]? = some a) (hb : ∀ p ∈ a.pts, By p.d) (hp : Pts w a.ptsV a.pts) (hk : a.kind < 4) :
 ((Wl.callJ y J a).err ≠ 0 → FgSt w fs n (m + 1) (Wl.callJ y J a).bay (Wl.callJ y J a).jn L G sr vals lv base) ∧
 ((Wl.callJ y J a).err = 0 → ∃ L' G' sr', FgSt w fs n (m + 1) (Wl.callJ y J a).bay (Wl.callJ y J a).jn L' G' sr' (lifeV a.kind lv vals) (lifeL a.kind lv a.ptsV) base ∧ (sr' : Int) = lifeS a.kind sr vals) := by
 obtain ⟨d, s, k, u⟩ := h.st
 obtain ⟨⟨d', s'⟩, hsl, hsz⟩ := Wl.call_ok (a := a) s hb
 obtain ⟨x, ux, k', hn, hs⟩ := k.call (a := a) s (by omega) hb
 obtain ⟨x2, ux2, u'⟩ := Wl.Dur.call (a := a) s k u hb hk
 have us := s'.up
 rw [hsl] at us
 obtain rfl : d' = x := by have := us.dev.symm.trans ux.dev; simpa using this
 obtain rfl : d' = x2 := by have := us.dev.symm.trans ux2.dev; simpa using this
 have hc := h.calm.trans (Calm.call y J a)
 have lo : (Wl.callJ y J a).bay.Low (21000 + 3 * wopW fs (m + 1)) := (Wl.fcallJ_low h.low).mono (by rw [wopW_succ ha]; omega)
 have s2 : Wl.Ok (Wl.callJ y J a).bay (Wl.callJ y J a).jn d' (6000 + (m + 1)) := s'.upto (by omega)
 refine ⟨fun he => ?_, fun he => ?_⟩
 ·have ea : Wl.after a (Wl.callJ y J a).err L G = (L, G) := by unfold Wl.after; rw [if_pos he]
  rw [ea] at k' u'
  rw [if_neg (fun q => he q.1)] at u'
  rw [if_neg (fun q => he q.2)] at hn
  exact ⟨⟨d', s2, k', u'⟩, hsl.trans h.slot, hsz.trans h.size, hc, lo, h.len, h.rel, h.log, h.sl, by rw [hn]; exact h.base⟩
 ·by_cases k1 : a.kind = 1
  ·have ea : Wl.after a (Wl.callJ y J a).err L G = (L, some (a.pts.map pdOf)) := by unfold Wl.after; rw [if_neg (fun q => q he), if_pos k1]
   rw [ea] at k' u'
   rw [if_pos ⟨he, .inl k1⟩] at u'
   rw [if_neg (by omega)] at hn
   have e1 : Wl.callJ y J a = Wl.logJ y J (scErr J.ep J.next a.pts) (a.pts.map pdOf) := by unfold Wl.callJ; rw [if_pos k1]
   have e0 : scErr J.ep J.next a.pts = 0 := log_err0 (by rw [← e1]; exact he)
   have hv : lifeV a.kind lv vals = vals := by unfold lifeV; rw [if_neg (by omega), if_neg (by omega)]
   have hl : lifeL a.kind lv a.ptsV = a.ptsV := by unfold lifeL; rw [if_pos k1]
   have hS : lifeS a.kind sr vals = (vals.length : Int) := by unfold lifeS; rw [if_pos (.inl k1)]
   rw [hv, hl, hS]
   obtain ⟨o, c, q⟩ := hp.slice
   exact ⟨L, some (a.pts.map pdOf), L.length, ⟨⟨d', s2, k', u'⟩, hsl.trans h.slot, hsz.trans h.size, hc, lo, h.len, h.rel, fun l hl => by
    obtain rfl := Option.some.inj hl
    exact ⟨a.pts, hp, rfl, (scErr_zero e0 hb).2.2⟩, ⟨o, _, c, q⟩, by rw [hn]; exact h.base⟩, by rw [h.len]⟩
  by_cases k2 : a.kind = 2
  ·have ea : Wl.after a (Wl.callJ y J a).err L G = (L ++ G.toList, none) := by unfold Wl.after; rw [if_neg (fun q => q he), if_neg k1, if_pos k2]
   rw [ea] at k' u'
   rw [if_neg (by omega)] at u'
   rw [if_pos ⟨k2, he⟩] at hn
   have e1 : Wl.callJ y J a = Wl.sealJ y J := by unfold Wl.callJ; rw [if_neg k1, if_pos k2]
   obtain ⟨l, hG⟩ : ∃ l, G = some l := by
    rcases s.sealing with ⟨_, q⟩ | ⟨c, _, q, _⟩
    ·rw [e1, q] at he
     cases he
    ·rw [k.com] at q
     cases hG : G with
     | none => rw [hG] at q; cases q
     | some l => exact ⟨l, rfl⟩
   subst hG
   have hv : lifeV a.kind lv vals = vals ++ [lv] := by unfold lifeV; rw [if_pos k2]
   have hl : lifeL a.kind lv a.ptsV = .slice none 0 0 := by unfold lifeL; rw [if_neg k1, if_pos (.inl k2)]
   have hS : lifeS a.kind sr vals = (sr : Int) := by unfold lifeS; rw [if_neg (by omega), if_neg (by omega)]
   rw [hv, hl, hS]
   refine ⟨L ++ [l], none, sr, ⟨⟨d', s2, k', u'⟩, hsl.trans h.slot, hsz.trans h.size, hc, lo, by rw [List.length_append, List.length_append, h.len]; rfl, fun i u l' hu hl' => ?_, fun l' hl' => (by cases hl'), ⟨_, _, _, rfl⟩, by rw [hn, h.base, List.length_append, List.length_singleton]; omega⟩, rfl⟩
   by_cases q : i < vals.length
   ·rw [List.getElem?_append_left q] at hu
    rw [List.getElem?_append_left (by rw [← h.len]; exact q)] at hl'
    exact h.rel i u l' hu hl'
   ·rw [List.getElem?_append_right (by omega)] at hu
    rw [List.getElem?_append_right (by rw [← h.len]; omega), ← h.len] at hl'
    obtain ⟨m', hm'⟩ : ∃ m', m' = i - vals.length := ⟨_, rfl⟩
    rw [← hm'] at hu hl'
    cases m' with
    | zero =>
      obtain rfl : lv = u := by simpa using hu
      obtain rfl : l = l' := by simpa using hl'
      exact h.log l rfl
    | succ m' => simp at hu
  ·have ea : Wl.after a (Wl.callJ y J a).err L G = (L, G) := by unfold Wl.after; rw [if_neg (fun q => q he), if_neg k1, if_neg k2, if_neg (by omega)]
   rw [ea] at k' u'
   rw [if_neg (by omega)] at hn
   have hv : lifeV a.kind lv vals = vals := by unfold lifeV; rw [if_neg k2, if_neg (by omega)]
   have hl : lifeL a.kind lv a.ptsV = lv := by unfold lifeL; rw [if_neg k1, if_neg (by omega)]
   rw [hv, hl]
   refine ⟨L, G, _, ⟨⟨d', s2, k', u'⟩, hsl.trans h.slot, hsz.trans h.size, hc, lo, h.len, h.rel, h.log, h.sl, by rw [hn]; exact h.base⟩, ?_⟩
   unfold lifeS
   by_cases k3 : a.kind = 3
   ·rw [if_pos ⟨he, .inr k3⟩, if_pos (.inr k3), h.len]
   ·rw [if_neg (by omega), if_neg (by omega), if_neg (by omega)]

/-- Behind the cut. -/
theorem FgSt.open (h : FgSt w fs n m y J L G sr vals lv base) (hm : m ≤ 5000) (keep : List Bool) {w0 w' : World} {b : Nat} {ts : List Thing} {e : Ending} (hO : Opnd w0 b (y.cut [keep]) 0 (n : Int) ts e w') :
 ∃ d J' Lf, Again w0 b (y.cut [keep]) 0 d J' Lf ts e w' ∧ Lf = L.take Lf.length ∧ sr ≤ Lf.length ∧ Lf.length ≤ L.length ∧ J'.next = base + Lf.length ∧ J'.next ≤ 11000 ∧ ∀ l ∈ L, Sc.Good l := by
 obtain ⟨d, s, k, u⟩ := h.st
 have hu := s.up
 rw [h.slot] at hu
 have hc : NoCome y 0 := h.calm.none (by
  unfold NoCome Wl.twoBay Bay.new Bay.slotOf
  rfl)
 obtain ⟨u2, _⟩ := Wl.up_cut hu hc [keep]
 obtain ⟨Jf, Lf, Gf, q1, q2, q3, q4, q5, q6, q7, q8, q9, q10, q11⟩ := Wl.Dur.cut s (by omega) k u keep
 have u3 : (y.cut [keep]).Up 0 ({ d with last := (Dk.kept keep 0 d.cache).foldl Dk.lay d.last, cache := [] } : Dk) := u2
 have hz := s.size
 have h5 := s.lo
 have h6 := s.hi
 have h7 := h.size
 have hb := h.base
 have hnx := s.next
 have hkn := k.nx
 rw [← h7, ← q7] at hO
 have ag := opnd_keeps hO u3 q1 (by omega) (by omega) q8 (by
  show 2 + Jf.S ≤ ((Dk.kept keep 0 d.cache).foldl Dk.lay d.last).length
  rw [Dk.lays_length]
  omega) q9 q10
 exact ⟨_, Jf, Lf, ag, q2, q3, q4, by omega, by omega, k.good⟩

end

/-- The journal in memory, and what is kept of it, to the number. -/
def RLif (w0 : World) (b W D R : Nat) (J : Wl.Jn) (y : Bay) (x : Nat) (sr : Int) (vals : List Value) (lv : Value) (w' : World) : Prop :=
 ∃ cv F so sc, Side w0 w' (jts b W D R J cv y F (lifeT x (.slice so vals.length sc) sr lv :: ownT 58 (.slice so vals.length sc) vals :: []))

section
variable {w0 w' : World} {b W D R x : Nat} {J : Wl.Jn} {y : Bay} {sr : Int} {vals : List Value} {lv : Value}

theorem RLif.chg (h : RLif w0 b W D R J y x sr vals lv w') : Chg [] w0 w' := by
 obtain ⟨cv, F, so, sc, H⟩ := h
 exact H.chg

theorem RLif.make {cv : Value} {F : List Nat} (H : Side w0 w' (jts b W D R J cv y F [])) : RLif w0 b W D R J y w'.heap.size 0 [] (.slice none 0 0) (w'.alloc (.cells #[.slice none 0 0, .int .i64 0, .slice none 0 0] 81)) := by
 have h1 := H.behind 81 [.slice none 0 0, .int .i64 0, .slice none 0 0]
 have h2 := h1.add (b := ownT 58 (.slice none 0 0) []) (Chg.refl _ _) (World.ownsRow_nil _ _ _ _) (fun k hk => by cases hk)
 exact ⟨cv, F, none, 0, h2.perm (by
  show ([_] ++ [_, _, _, _, _, _]).Perm ([_, _, _, _, _, _] ++ [_])
  exact List.perm_append_comm)⟩

end

end Go.Proofs.YtkafkdlgflkjgaaGreat
