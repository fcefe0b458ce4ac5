/-
  WalUnsealed's walk. By an AI agent.
-/
import Derived.Test.YtaggfbgbmiifaaaGreatBWlAre
import Derived.Test.YtaggfbgbmiifaaaGreatBWlLawI
import Derived.Test.YtaggfbgbmiifaaaGreatBByCalls
namespace Go.Proofs.YtaggfbgbmiifaaaGreat
open Go.RowKit Go.Maps Crc

/-- A slice of patches reads as a batch. -/
def PRel (w : World) (u : Value) (l : List Pd) : Prop := ∃ ps, Pts w u ps ∧ ps.map pdOf = l ∧ ∀ p ∈ ps, PdIs p (pdOf p)

theorem PRel.chg {w w' : World} {u : Value} {l : List Pd} (h : PRel w u l) (c : Chg [] w w') : PRel w' u l := by
  obtain ⟨ps, h1, h2, h3⟩ := h
  exact ⟨ps, h1.chg c, h2, h3⟩

/-- How a journal stands, and what is kept of it. -/
structure USt (w : World) (es : List WOpD) (n j : Nat) (y : Bay) (J : Wl.Jn) (L : List (List Pd)) (G : Option (List Pd)) (vals : List Value) (lv : Value) : Prop where
  st : ∃ d B Lw, CSt es n j y J d B Lw ∧ Wl.Keeps d J L G
  come : NoCome y 0
  calm : Calm (Wl.twoBay n) y
  len : vals.length = L.length
  rel : ∀ (i : Nat) (u : Value) (l : List Pd), vals[i]? = some u → L[i]? = some l → PRel w u l
  log : ∀ l, G = some l → PRel w lv l
  sl : ∃ o n c, lv = .slice o n c

theorem USt.begin {w : World} {es : List WOpD} {n : Nat} (n5 : 5 ≤ n) (n2 : n ≤ 2048) : USt w es n 0 (Wl.bgBay n) (Wl.bgJn n) [] none [] (.slice none 0 0) := by
  obtain ⟨d, ok, k⟩ := Wl.bg_keeps n5 n2
  exact ⟨⟨d, 3, 2050, ⟨ok, Nat.le_refl _, (Wl.fmtIo_low (Bay.new_low _) 0 n 1).mono (by omega), by omega, rfl, rfl⟩, k⟩, (bg_come n5 n2).1, Calm.fmt _ _ _ _, rfl, fun i u l h => (by simp at h), fun l h => (by cases h), ⟨_, _, _, rfl⟩⟩

section
variable {w : World} {es : List WOpD} {n j : Nat} {y : Bay} {J : Wl.Jn} {L : List (List Pd)} {G : Option (List Pd)} {vals : List Value} {lv : Value} {a : WOpD}

theorem USt.low (h : USt w es n j y J L G vals lv) (hw : wopW es es.length ≤ 5000) : y.Low 20000 := by
  obtain ⟨d, B, Lw, s, k⟩ := h.st
  exact s.low.mono (s.bound hw)

theorem USt.fit (h : USt w es n j y J L G vals lv) (hj : j ≤ 5000) : J.Fit ∧ J.slot = 0 ∧ J.S = n ∧ J.next ≤ 5003 ∧ L.length ≤ 5003 := by
  obtain ⟨d, B, Lw, s, k⟩ := h.st
  have h1 := s.ok.next
  have h2 := s.b
  have h3 := k.nx
  exact ⟨s.fit (by omega), s.slot, s.size, by omega, by omega⟩

theorem USt.call (h : USt w es n j y J L G vals lv) (hj : j ≤ 100000) (ha : es[j]? = some a) (hb : ∀ p ∈ a.pts, By p.d) (hp : Pts w a.ptsV a.pts) :
    ((Wl.callJ y J a).err ≠ 0 → USt w es n (j + 1) (Wl.callJ y J a).bay (Wl.callJ y J a).jn L G vals lv) ∧
    ((Wl.callJ y J a).err = 0 → ∃ L' G', USt w es n (j + 1) (Wl.callJ y J a).bay (Wl.callJ y J a).jn L' G' (lifeV a.kind lv vals) (lifeL a.kind lv a.ptsV)) := by
  obtain ⟨d, B, Lw, s, k⟩ := h.st
  obtain ⟨d', B', L', s'⟩ := s.call ha hb
  obtain ⟨x, u, k', hn, hs⟩ := k.call (a := a) s.ok (by have := s.b; omega) hb
  have u' := s'.ok.up
  rw [hs] at u'
  have e : d' = x := by have := u'.dev.symm.trans u.dev; simpa using this
  subst e
  have hc := (Calm.call y J a).none h.come
  have hm := h.calm.trans (Calm.call y J a)
  refine ⟨fun he => ?_, fun he => ?_⟩
  · have ea : Wl.after a (Wl.callJ y J a).err L G = (L, G) := by unfold Wl.after; rw [if_pos he]
    rw [ea] at k'
    exact ⟨⟨d', B', L', s', k'⟩, hc, hm, h.len, h.rel, h.log, h.sl⟩
  · by_cases k1 : a.kind = 1
    · have ea : Wl.after a (Wl.callJ y J a).err L G = (L, some (a.pts.map pdOf)) := by unfold Wl.after; rw [if_neg (fun q => q he), if_pos k1]
      rw [ea] at k'
      have e1 : Wl.callJ y J a = Wl.logJ y J (scErr J.ep J.next a.pts) (a.pts.map pdOf) := by unfold Wl.callJ; rw [if_pos k1]
      have e0 : scErr J.ep J.next a.pts = 0 := log_err0 (by rw [← e1]; exact he)
      have hv : lifeV a.kind lv vals = vals := by unfold lifeV; rw [if_neg (by omega), if_neg (by omega)]
      have hl : lifeL a.kind lv a.ptsV = a.ptsV := by unfold lifeL; rw [if_pos k1]
      rw [hv, hl]
      obtain ⟨o, c, q⟩ := hp.slice
      exact ⟨L, some (a.pts.map pdOf), ⟨d', B', L', s', k'⟩, hc, hm, h.len, h.rel, fun l hl => by
        obtain rfl := Option.some.inj hl
        exact ⟨a.pts, hp, rfl, (scErr_zero e0 hb).2.2⟩, ⟨o, _, c, q⟩⟩
    by_cases k2 : a.kind = 2
    · have ea : Wl.after a (Wl.callJ y J a).err L G = (L ++ G.toList, none) := by unfold Wl.after; rw [if_neg (fun q => q he), if_neg k1, if_pos k2]
      rw [ea] at k'
      have e1 : Wl.callJ y J a = Wl.sealJ y J := by unfold Wl.callJ; rw [if_neg k1, if_pos k2]
      obtain ⟨l, hG⟩ : ∃ l, G = some l := by
        rcases s.ok.sealing with ⟨_, q⟩ | ⟨c, _, q, _⟩
        · rw [e1, q] at he
          cases he
        · rw [k.com] at q
          cases hG : G with
          | none => rw [hG] at q; cases q
          | some l => exact ⟨l, rfl⟩
      subst hG
      have hv : lifeV a.kind lv vals = vals ++ [lv] := by unfold lifeV; rw [if_pos k2]
      have hl : lifeL a.kind lv a.ptsV = .slice none 0 0 := by unfold lifeL; rw [if_neg k1, if_pos (.inl k2)]
      rw [hv, hl]
      refine ⟨L ++ [l], none, ⟨d', B', L', s', k'⟩, hc, hm, by rw [List.length_append, List.length_append, h.len]; rfl, fun i u l' hu hl' => ?_, fun l' hl' => (by cases hl'), ⟨_, _, _, rfl⟩⟩
      by_cases q : i < vals.length
      · rw [List.getElem?_append_left q] at hu
        rw [List.getElem?_append_left (by rw [← h.len]; exact q)] at hl'
        exact h.rel i u l' hu hl'
      · rw [List.getElem?_append_right (by omega)] at hu
        rw [List.getElem?_append_right (by rw [← h.len]; omega), ← h.len] at hl'
        obtain ⟨m, hm⟩ : ∃ m, m = i - vals.length := ⟨_, rfl⟩
        rw [← hm] at hu hl'
        cases m with
        | zero =>
          obtain rfl : lv = u := by simpa using hu
          obtain rfl : l = l' := by simpa using hl'
          exact h.log l rfl
        | succ m => simp at hu
    by_cases k4 : a.kind = 4 ∨ a.kind = 5
    · have ea : Wl.after a (Wl.callJ y J a).err L G = ([], none) := by unfold Wl.after; rw [if_neg (fun q => q he), if_neg k1, if_neg k2, if_pos k4]
      rw [ea] at k'
      have hv : lifeV a.kind lv vals = [] := by unfold lifeV; rw [if_neg k2, if_pos k4]
      have hl : lifeL a.kind lv a.ptsV = .slice none 0 0 := by unfold lifeL; rw [if_neg k1, if_pos (.inr k4)]
      rw [hv, hl]
      exact ⟨[], none, ⟨d', B', L', s', k'⟩, hc, hm, rfl, fun i u l h => (by simp at h), fun l h => (by cases h), ⟨_, _, _, rfl⟩⟩
    · have ea : Wl.after a (Wl.callJ y J a).err L G = (L, G) := by unfold Wl.after; rw [if_neg (fun q => q he), if_neg k1, if_neg k2, if_neg k4]
      rw [ea] at k'
      have hv : lifeV a.kind lv vals = vals := by unfold lifeV; rw [if_neg k2, if_neg k4]
      have hl : lifeL a.kind lv a.ptsV = lv := by unfold lifeL; rw [if_neg k1, if_neg (by rcases Classical.em (a.kind = 2) with q | q; exact absurd q k2; exact fun m => m.elim q k4)]
      rw [hv, hl]
      exact ⟨L, G, ⟨d', B', L', s', k'⟩, hc, hm, h.len, h.rel, h.log, h.sl⟩

theorem Calm.log (y : Bay) (J : Wl.Jn) (e : Int) (l : List Pd) : Calm y (Wl.logJ y J e l).bay := by
  unfold Wl.logJ
  split
  · rfl
  · rw [Wl.ends_bay]
    exact (Calm.wrs J.slot _ (y, J.br)).trans (Calm.fl J.slot _)

theorem two_calm {n : Nat} {y : Bay} (h : Calm (Wl.twoBay n) y) : ∀ (i : Nat) (hi : i < y.slots.length), y.slots[i].coming = none := fun i hi => by
  have e : y.slots.map (·.coming) = [none, none] := by
    refine Eq.trans h ?_
    unfold Wl.twoBay Bay.new Bay.slotOf
    rfl
  have e2 : (y.slots.map (·.coming))[i]? = some (y.slots[i].coming) := by rw [List.getElem?_map, List.getElem?_eq_getElem hi]; rfl
  rw [e] at e2
  match i, hi, e2 with
  | 0, _, e2 => exact (Option.some.inj e2).symm
  | 1, _, e2 => exact (Option.some.inj e2).symm
  | i + 2, _, e2 => simp at e2

theorem wl_low_cut {k : Nat} {y : Bay} (h : y.Low k) (hc : ∀ (i : Nat) (hi : i < y.slots.length), y.slots[i].coming = none) (keeps : List (List Bool)) : (y.cut keeps).Low k := by
  refine ⟨fun r d hd => ?_, h.reads, h.writes, h.flushes⟩
  have hr := Bay.dev_is hd
  rw [Bay.cut_is] at hr
  obtain ⟨i, rfl, hi⟩ := Bay.is_some hr
  rw [Bay.cut_dev keeps hi] at hd
  unfold Bay.cutSlot at hd
  rw [hc i hi] at hd
  simp only at hd
  cases hin : y.slots[i].inn with
  | none => rw [hin] at hd; cases hd
  | some e =>
    rw [hin] at hd
    obtain rfl : e.lay (e.disk.crash (keeps.getD i [])) = d := by simpa using hd
    have h1 : y.dev i = some e := by
      rw [Bay.slot_dev (x := y.slots[i]) hr (by rw [Int.toNat_natCast]; exact List.getElem?_eq_getElem hi), hin]
    exact Nat.le_trans (Bay.crash_cache _ _) (h.caches _ _ h1)

/-- A Log that is not refused, and the power that goes behind it. -/
theorem USt.last (h : USt w es n j y J L G vals lv) (hj : j ≤ 100000) {ps : List PtD} (hb : ∀ p ∈ ps, By p.d) (h0 : (Wl.logJ y J (scErr J.ep J.next ps) (ps.map pdOf)).err = 0) (keeps : List (List Bool)) {w0 w' : World} {b : Nat} {ts : List Thing} {e : Ending}
    (hO : Opnd w0 b ((Wl.logJ y J (scErr J.ep J.next ps) (ps.map pdOf)).bay.cut keeps) 0 (n : Int) ts e w') :
    ∃ d J', Again w0 b ((Wl.logJ y J (scErr J.ep J.next ps) (ps.map pdOf)).bay.cut keeps) 0 d J' L ts e w' ∧ J'.next = J.next ∧ J'.Fit ∧ (Wl.logJ y J (scErr J.ep J.next ps) (ps.map pdOf)).jn.next = J.next ∧ J.next - L.length + L.length = J.next ∧ ∀ l ∈ L, Sc.Good l := by
  obtain ⟨d, B, Lw, s, k⟩ := h.st
  have he : scErr J.ep J.next ps = 0 := log_err0 h0
  have hg := (scErr_zero he hb).2.1
  rw [he] at h0 hO ⊢
  have hz : Wl.logErr J 0 (ps.map pdOf).length = 0 := by
    by_cases q : Wl.logErr J 0 (ps.map pdOf).length = 0
    · exact q
    · rw [s.ok.log_no q] at h0
      exact absurd h0 q
  have hfit : 2 * (ps.map pdOf).length + 1 ≤ J.S - J.u := by
    unfold Wl.logErr at hz
    rw [if_neg (fun q => q s.ok.br), if_neg (fun q => q rfl)] at hz
    split at hz
    · cases hz
    · split at hz
      · cases hz
      · omega
  obtain ⟨d', h1, h2, h3, h4, h5⟩ := s.ok.log hg hz
  have k' := k.logging s.ok.lo s.ok.size hg (by have := s.ok.used; omega) h5
  have hu := h4.up
  rw [s.slot] at hu
  have hc : NoCome (Wl.logJ y J 0 (ps.map pdOf)).bay 0 := by
    have m := h4.come
    rw [s.slot] at m
    unfold NoCome
    rw [m]
    exact h.come
  obtain ⟨u2, _⟩ := Wl.up_cut hu hc keeps
  have e5 : d'.cache = [] := by rw [h5]
  have ed : ({ d' with last := (Dk.kept (keeps.getD (0 : Int).toNat []) 0 d'.cache).foldl Dk.lay d'.last, cache := [] } : Dk) = d' := by
    rw [e5, show Dk.kept (keeps.getD (0 : Int).toNat []) 0 [] = [] from rfl, List.foldl_nil]
    cases d'
    simp only at e5
    subst e5
    rfl
  rw [ed] at u2
  have q1 := s.ok.next
  have q2 := s.ok.ep
  have q3 := s.b
  have q4 := k.nx
  have hz2 := s.size
  rw [← hz2] at hO
  have sz := h3.size
  have ag := opnd_keeps (J := Wl.logged J (ps.map pdOf)) hO u2 k' h3.lo h3.hi h3.tail sz h3.used ⟨Nat.le_trans q2 (by omega), by show 1 ≤ J.next; omega, Nat.le_trans q1 (by omega)⟩
  exact ⟨d', Wl.logged J (ps.map pdOf), ag, rfl, h3.fit (by omega), by rw [h2]; rfl, by omega, k.good⟩

end

/-- A journal in memory, and what is kept of it beside it. -/
def RLife (w0 : World) (b W D R : Nat) (J : Wl.Jn) (y : Bay) (x : Nat) (vals : List Value) (lv : Value) (w' : World) : Prop :=
  ∃ cv F so sc sr, Side w0 w' (jts b W D R J cv y F (lifeT x (.slice so vals.length sc) sr lv :: ownT 58 (.slice so vals.length sc) vals :: []))

section
variable {w0 w' : World} {b W D R x : Nat} {J : Wl.Jn} {y : Bay} {vals : List Value} {lv : Value}

theorem RLife.chg (h : RLife w0 b W D R J y x vals lv w') : Chg [] w0 w' := by
  obtain ⟨cv, F, so, sc, sr, H⟩ := h
  exact H.chg

theorem RLife.quiet {w'' : World} (h : RLife w0 b W D R J y x vals lv w') (c : Chg [] w' w'') : RLife w0 b W D R J y x vals lv w'' := by
  obtain ⟨cv, F, so, sc, sr, H⟩ := h
  exact ⟨cv, F, so, sc, sr, H.quiet c⟩

theorem RLife.make {cv : Value} {F : List Nat} (H : Side w0 w' (jts b W D R J cv y F [])) : RLife w0 b W D R J y w'.heap.size [] (.slice none 0 0) (w'.alloc (.cells #[.slice none 0 0, .int .i64 0, .slice none 0 0] 81)) := by
  have h1 := H.behind 81 [.slice none 0 0, .int .i64 0, .slice none 0 0]
  have h2 := h1.add (b := ownT 58 (.slice none 0 0) []) (Chg.refl _ _) (World.ownsRow_nil _ _ _ _) (fun k hk => by cases hk)
  exact ⟨cv, F, none, 0, 0, h2.perm (by
    show ([_] ++ [_, _, _, _, _, _]).Perm ([_, _, _, _, _, _] ++ [_])
    exact List.perm_append_comm)⟩

theorem rlife_call (a : WOpD) (h : RLife w0 b W D R J y x vals lv w') (hf : J.Fit) (hs : I64 J.slot) (hl : y.Low 999990000) (h2 : Pts w' a.ptsV a.pts) (hb : ∀ p ∈ a.pts, By p.d ∧ Cap p.v) (h3 : ∃ o n c, a.keepV = .slice o n c) :
    Calls Tryz.prog 38 #[.pointer (some ⟨W, 0, none⟩), .agg #[.int .i64 a.kind, .int .i64 a.num, a.ptsV, a.keepV]] w' fun e w'' => e = .returned (.int .u16 (Wl.callJ y J a).err) ∧ Hid (RLife w0 b W D R (Wl.callJ y J a).jn (Wl.callJ y J a).bay x vals lv w'') := by
  obtain ⟨cv, F, so, sc, sr, H⟩ := h
  refine (calls_any H hf hs hl a h2 hb h3).mono ?_
  rintro e w'' ⟨h1, F2, cv2, h2⟩
  exact ⟨h1, cv2, F2, so, sc, sr, h2.out⟩

theorem rlife_does (h : RLife w0 b W D R J y x vals lv w') (hv : vals.length ≤ 100000) (hl : ∃ o n c, lv = .slice o n c) (k num : Int) (po : Option Addr) (pn pc : Nat) (ko : Option Addr) (kn kc : Nat) :
    Calls Tryz.prog 39 #[.pointer (some ⟨x, 0, none⟩), .agg #[.int .i64 k, .int .i64 num, .slice po pn pc, .slice ko kn kc]] w' fun e w'' => e = .returned (.tuple #[]) ∧ Hid (RLife w0 b W D R J y x (lifeV k lv vals) (lifeL k lv (.slice po pn pc)) w'') := by
  obtain ⟨cv, F, so, sc, sr, H⟩ := h
  have H2 : Side w0 w' (lifeT x (.slice so vals.length sc) sr lv :: ownT 58 (.slice so vals.length sc) vals :: jts b W D R J cv y F []) := H.perm (by
    show ([_, _, _, _, _] ++ [_, _]).Perm ([_, _] ++ [_, _, _, _, _])
    exact List.perm_append_comm)
  refine (does_any H2 hv k num po pn pc ko kn kc hl).mono ?_
  rintro e w'' ⟨h1, sv, h2⟩
  obtain ⟨so2, sc2, rfl⟩ := owns_slice (show w''.ownsRow 0 58 1 sv (lifeV k lv vals).length (lifeV k lv vals) from h2.out.get 1 rfl)
  exact ⟨h1, cv, F, so2, sc2, _, h2.out.perm (by
    show ([_, _] ++ [_, _, _, _, _]).Perm ([_, _, _, _, _] ++ [_, _])
    exact List.perm_append_comm)⟩

theorem rlife_log (h : RLife w0 b W D R J y x vals lv w') (hf : J.Fit) (hs : I64 J.slot) (hl : y.Low 999990000) (v : Value) (ds : List PtD) (hv : Pts w' v ds) (hb : ∀ d ∈ ds, By d.d ∧ Cap d.v) :
    Calls Tryz.prog 30 #[.pointer (some ⟨W, 0, none⟩), v] w' fun e w'' => e = .returned (.int .u16 (Wl.logJ y J (scErr J.ep J.next ds) (ds.map pdOf)).err) ∧ Hid (RLife w0 b W D R (Wl.logJ y J (scErr J.ep J.next ds) (ds.map pdOf)).jn (Wl.logJ y J (scErr J.ep J.next ds) (ds.map pdOf)).bay x vals lv w'') := by
  obtain ⟨cv, F, so, sc, sr, H⟩ := h
  refine (wlog_any H hf hs hl v ds hv hb).mono ?_
  rintro e w'' ⟨h1, F2, cv2, h2⟩
  exact ⟨h1, cv2, F2, so, sc, sr, h2.out⟩

end

theorem pts_alike {l : List Pd} {ps : List PtD} {t : List Pv} (h1 : ps.map pdOf = l) (h2 : ∀ p ∈ ps, PdIs p (pdOf p)) (h3 : dOf t = l) : t.length = ps.length ∧ ∀ (i : Nat) (p q : PtD), (t.map toPt)[i]? = some p → ps[i]? = some q → p.alike q := by
  refine ⟨by have a := congrArg List.length h1; have b := congrArg List.length h3; unfold dOf at b; rw [List.length_map] at a b; omega, fun i p q hp hq => ?_⟩
  rw [List.getElem?_map] at hp
  obtain ⟨x, hx, rfl⟩ := Option.map_eq_some_iff.1 hp
  have e1 : l[i]? = some x.1 := by rw [← h3]; unfold dOf; rw [List.getElem?_map, hx]; rfl
  have e2 : l[i]? = some (pdOf q) := by rw [← h1, List.getElem?_map, hq]; rfl
  have e : x.1 = pdOf q := Option.some.inj (e1.symm.trans e2)
  have k := h2 q (List.mem_of_getElem? hq)
  unfold toPt PtD.alike
  rw [e]
  exact ⟨k.m.symm, k.r.symm, k.d.symm⟩

set_option maxHeartbeats 4000000 in
set_option maxRecDepth 10000000 in
theorem wunsealed_any (w : World) (ring : Int) (hr : I64 ring) (v : Value) (es : List WOpD) (hv : WOps w v es) (pv : Value) (ps : List PtD) (hp : Pts w pv ps) (hpb : ∀ p ∈ ps, By p.d ∧ Cap p.v) (kv : Value) (bs : List Bool) (hk : RdV w kv (bs.map Value.bool)) (hkl : bs.length ≤ 140737488355328) :
    Calls Tryz.prog 9 #[.int .i64 ring, v, pv, kv] w fun e w' => e = .returned (.bool true) ∧ Chg [] w w' := by
  have MU := Lib.hid (wmuch_any v es w hv)
  have HVS : Hid (∀ w', Chg [] w w' → WOps w' v es) := fun w' c => hv.chg c
  have HPS : Hid (∀ w', Chg [] w w' → Pts w' pv ps) := fun w' c => hp.chg c
  have HPB0 := Lib.hid hpb
  have HK := Lib.hid hk
  have KN : Hid (∀ w', Calls Tryz.prog 14 #[] w' fun e w'' => e = .returned (.bool true) ∧ Hid (Chg [] w' w'')) := wknown_any
  obtain ⟨vo, vc, rfl⟩ := hv.slice
  obtain ⟨po, pc, rfl⟩ := hp.slice
  obtain ⟨ko, kc, rfl⟩ := hk.slice
  rw [List.length_map] at HK ⊢
  replace hkl := Lib.hid hkl
  clear hv hp hpb hk
  go_enter Tryz.func9, Tryz.ntmps9
  go_wp2_with fail
  refine MU.out.mono ?_
  rintro e w1 ⟨mb, rfl, hsm, q, rfl⟩
  replace hsm := Lib.hid hsm
  clear MU
  cases mb with
  | true =>
    go_wp2_with fail
    go_ret
    exact ⟨rfl, (Chg.refl [] w).drewN q⟩
  | false =>
  have HW : Hid (wopW es es.length ≤ 5000) := hsm.out rfl
  clear hsm
  obtain ⟨w2, hw2⟩ : ∃ w2, w2 = w.drewN q := ⟨_, rfl⟩
  have CW0 : Hid (Chg [] w w2) := by rw [hw2]; exact (Chg.refl [] w).drewN q
  rw [← hw2]
  clear hw2
  have MU2 : Hid (Calls Tryz.prog 12 #[.slice (some ⟨w2.heap.size, 0, none⟩) 1 1] (w2.alloc (.cells #[.int .i64 0, .int .i64 0, .slice po ps.length pc, .slice none 0 0] 61)) (WMuch (w2.alloc (.cells #[.int .i64 0, .int .i64 0, .slice po ps.length pc, .slice none 0 0] 61)) [⟨0, 0, .slice po ps.length pc, ps, .slice none 0 0, []⟩])) := by
    refine wmuch_any _ _ _ (.inr ⟨w2.heap.size, 0, 1, rfl, ?_, by show (1 : Nat) ≤ _; decide, fun i d hd => ?_⟩)
    · simp
    · have BX := Blk.made w2 [.int .i64 0, .int .i64 0, .slice po ps.length pc, .slice none 0 0] 61
      have hi : i < 1 := (List.getElem?_eq_some_iff.1 hd).1
      obtain rfl : i = 0 := by omega
      obtain rfl : _ = d := Option.some.inj hd
      exact ⟨BX.cell (j := 0) rfl, BX.cell (j := 1) rfl, BX.cell (j := 2) rfl, BX.cell (j := 3) rfl, by show (-9223372036854775808 : Int) ≤ 0 ∧ (0 : Int) ≤ 9223372036854775807; decide, by show (-9223372036854775808 : Int) ≤ 0 ∧ (0 : Int) ≤ 9223372036854775807; decide, HPS.out _ (CW0.out.alloc _), HPB0.out, .inl ⟨rfl, _, _, rfl⟩, by show (0 : Nat) ≤ _; decide⟩
  go_wp2_with fail
  refine MU2.out.mono ?_
  rintro e w3 ⟨mb, rfl, hsm, q3, rfl⟩
  replace hsm := Lib.hid hsm
  clear MU2
  cases mb with
  | true =>
    go_wp2_with fail
    go_ret
    exact ⟨rfl, (CW0.out.alloc _).drewN q3⟩
  | false =>
  have HP5 : Hid (ps.length ≤ 5000) := by
    have := hsm.out rfl
    simp [wopW, WOpD.weight] at this
    show ps.length ≤ 5000
    omega
  clear hsm
  obtain ⟨w4, hw4⟩ : ∃ w4, w4 = (w2.alloc (.cells #[.int .i64 0, .int .i64 0, .slice po ps.length pc, .slice none 0 0] 61)).drewN q3 := ⟨_, rfl⟩
  have CW : Hid (Chg [] w w4) := by rw [hw4]; exact (CW0.out.alloc _).drewN q3
  rw [← hw4]
  clear hw4 CW0
  by_cases hbig : (100000 : Int) < (bs.length : Int)
  · go_wp2_with fail
    go_ret
    exact ⟨rfl, CW.out⟩
  by_cases hin : 5 ≤ ring ∧ ring ≤ 2048
  case neg =>
    have BN := Lib.hid (begun_no ring hin w4)
    have K1 := Lib.hid (KN.out w4)
    clear KN HVS HW HPS HPB0 HK
    by_cases h1 : ring < 5
    · clear hin
      go_wp2_with (first
        | (go_at_call 44; refine BN.out.mono ?_; rintro e w3 ⟨rfl, rfl⟩)
        | (go_at_call 14; refine K1.out.mono ?_; rintro e w3 ⟨rfl, C3⟩; clear K1 BN))
      go_ret
      exact ⟨rfl, CW.out.trans C3.out⟩
    · have h2 : 2048 < ring := by omega
      clear hin
      go_wp2_with (first
        | (go_at_call 44; refine BN.out.mono ?_; rintro e w3 ⟨rfl, rfl⟩)
        | (go_at_call 14; refine K1.out.mono ?_; rintro e w3 ⟨rfl, C3⟩; clear K1 BN))
      go_ret
      exact ⟨rfl, CW.out.trans C3.out⟩
  case pos =>
  obtain ⟨n, rfl⟩ : ∃ n : Nat, ring = n := ⟨ring.toNat, by omega⟩
  have n5 : 5 ≤ n := by omega
  have n2 : n ≤ 2048 := by omega
  have BG := Lib.hid (begun_ok (Side.nil (Chg.refl [] w4)) n5 n2)
  have S0 : Hid (USt w es n 0 (Wl.bgBay n) (Wl.bgJn n) [] none [] (.slice none 0 0)) := USt.begin n5 n2
  clear hin hr
  go_wp2_with (first
    | (go_at_call 44; refine BG.out.mono ?_; rintro e w5 ⟨b, W, D, R, F, rfl, H5⟩; clear BG; have K1 := Lib.hid (KN.out w5); clear KN)
    | (go_at_call 14; refine K1.out.mono ?_; rintro e w7 ⟨rfl, C7⟩; clear K1; have H7 := Lib.hid (H5.out.quiet C7.out); clear H5 C7))
  obtain ⟨x, hx⟩ : ∃ x, x = w7.heap.size := ⟨_, rfl⟩
  have T8 := RLife.make H7.out
  obtain ⟨w8, hw8⟩ : ∃ w8, w8 = w7.alloc (.cells #[.slice none 0 0, .int .i64 0, .slice none 0 0] 81) := ⟨_, rfl⟩
  rw [← hx, ← hw8] at T8
  replace T8 := Lib.hid T8
  rw [← hw8, ← hx]
  clear hx hw8 H7
  obtain ⟨N, hN⟩ : ∃ N, N = es.length := ⟨_, rfl⟩
  have HN := Lib.hid hN
  have HVN : Hid (∀ w', Chg [] w w' → WOps w' (.slice vo N vc) es) := fun w' c => by rw [hN]; exact HVS.out w' c
  have HNW : Hid (N ≤ 5000) := by rw [hN]; exact (wopW_le HW.out).1
  rw [← hN]
  clear HVS hN
  have hl0 : (0 : Int) ≤ N := Int.natCast_nonneg _
  have H0 : Hid (∃ y J L G vals lv, USt w es n 0 y J L G vals lv ∧ RLife w4 b W D R J y x vals lv w8) := ⟨_, _, _, _, _, _, S0.out, T8.out⟩
  clear S0 T8
  go_loopw [12] (fun i wr => ∃ j : Nat, j ≤ N ∧ i = .int .i64 j ∧ Hid (∃ y J L G vals lv, USt w es n j y J L G vals lv ∧ RLife w4 b W D R J y x vals lv wr)) (fun i _ => N - (intOf i).toNat)
  case atStart => exact ⟨0, Nat.zero_le _, rfl, H0⟩
  case round =>
    obtain ⟨j, hj, rfl, Hj⟩ := hrel
    clear H0
    have hj0 : (0 : Int) ≤ j := Int.natCast_nonneg _
    obtain ⟨y, J, L, G, vals, lv, ST, T0⟩ := Hj.out
    replace ST := Lib.hid ST
    replace T0 := Lib.hid T0
    clear Hj
    have FIT := Lib.hid (ST.out.fit (by have := HNW.out; omega))
    have LOW := Lib.hid ((ST.out.low HW.out).mono (show 20000 ≤ 999990000 by decide))
    have I0 : Hid (I64 J.slot) := by rw [FIT.out.2.1]; exact ⟨by decide, by decide⟩
    by_cases hlt : j < N
    · have hj1 : (j : Int) < N := by omega
      obtain ⟨a, ha⟩ : ∃ a, es[j]? = some a := ⟨_, List.getElem?_eq_getElem (by have := HN.out; omega)⟩
      obtain ⟨bl, o, rfl, hbl, RI⟩ := (HVN.out _ (CW.out.trans T0.out.chg)).at ha
      have RIF : Hid (∀ w', Chg [] w w' → WOpIn w' bl (o + j * 4) a) := fun w' c => by
        obtain ⟨bl2, o2, e2, _, r⟩ := (HVN.out _ c).at ha
        obtain ⟨rfl, rfl⟩ : bl = bl2 ∧ o = o2 := by simpa using e2
        exact r
      obtain ⟨x2, y2, e2⟩ := RI.s2.slice
      obtain ⟨x3, y3, e3⟩ := RI.s3.slice
      rw [List.length_map] at e3
      have HPB : ∀ p ∈ a.pts, By p.d ∧ Cap p.v := fun p hp => ⟨(RI.y2 p hp).1, (RI.y2 p hp).2⟩
      have hp0 : Pts w a.ptsV a.pts := (RIF.out w (Chg.refl _ _)).s2
      have CC := rlife_call a T0.out FIT.out.1 I0.out LOW.out RI.s2 HPB ⟨_, _, _, e3⟩
      have S3 := Lib.hid (ST.out.call (by have := HNW.out; omega) ha (fun p hp => (HPB p hp).1) hp0)
      rw [e2] at S3
      rw [e2, e3] at CC
      replace CC := Lib.hid CC
      obtain ⟨OUT, hOUT⟩ : ∃ OUT, OUT = Wl.callJ y J a := ⟨_, rfl⟩
      rw [← hOUT] at CC S3
      have hvl : vals.length ≤ 100000 := by rw [ST.out.len]; have := FIT.out.2.2.2.2; omega
      have DDF : Hid (∀ w', RLife w4 b W D R OUT.jn OUT.bay x vals lv w' → Calls Tryz.prog 39 #[.pointer (some ⟨x, 0, none⟩), .agg #[.int .i64 a.kind, .int .i64 a.num, .slice x2 a.pts.length y2, .slice x3 a.keep.length y3]] w' fun e w'' => e = .returned (.tuple #[]) ∧ Hid (RLife w4 b W D R OUT.jn OUT.bay x (lifeV a.kind lv vals) (lifeL a.kind lv (.slice x2 a.pts.length y2)) w'')) := fun w' h => rlife_does h hvl ST.out.sl _ _ _ _ _ _ _ _
      have CELLS : Hid (∀ w', Chg [] w w' → w'.cell? ⟨bl, o + j * 4, none⟩ = some (.int .i64 a.kind) ∧ w'.cell? ⟨bl, o + j * 4 + 1, none⟩ = some (.int .i64 a.num) ∧ w'.cell? ⟨bl, o + j * 4 + 2, none⟩ = some (.slice x2 a.pts.length y2) ∧ w'.cell? ⟨bl, o + j * 4 + 3, none⟩ = some (.slice x3 a.keep.length y3)) := fun w' c => by
        have r := RIF.out w' c
        exact ⟨r.c0, r.c1, by rw [← e2]; exact r.c2, by rw [← e3]; exact r.c3⟩
      obtain ⟨c0, c1, c2, c3⟩ := CELLS.out _ (CW.out.trans T0.out.chg)
      have MEAS : Hid (N - (intOf (.int .i64 ((j : Int) + 1))).toNat < N - (intOf (.int .i64 (j : Int))).toNat) := meas_next hlt
      obtain ⟨wa, wb⟩ := sc_wrap (z := (j : Int) + 1) (by omega) (by have := HNW.out; omega)
      clear RI RIF e2 e3 hOUT hbl HPB hp0 HVN HN FIT LOW I0 ST T0 hvl
      by_cases he : OUT.err = 0
      · have S4 := Lib.hid (S3.out.2 he)
        go_wp2_with (first
          | (go_at_call 38; refine CC.out.mono ?_; rintro e w9 ⟨rfl, T9⟩; clear CC c0 c1 c2 c3; obtain ⟨c0, c1, c2, c3⟩ := CELLS.out _ (CW.out.trans T9.out.chg); have DD := Lib.hid (DDF.out _ T9.out))
          | (go_at_call 39; refine DD.out.mono ?_; rintro e w10 ⟨rfl, T10⟩; clear DD c0 c1 c2 c3))
        obtain ⟨L', G', S5⟩ := S4.out
        exact ⟨⟨j + 1, hlt, by first | rfl | (rw [Int.natCast_add]; rfl) | go_num, ⟨_, _, L', G', _, _, S5, T10.out⟩⟩, MEAS.out⟩
      · have S4 := Lib.hid (S3.out.1 he)
        have hne : (OUT.err == 0) = false := by simpa using he
        go_wp2_with (first
          | (go_at_call 38; refine CC.out.mono ?_; rintro e w9 ⟨rfl, T9⟩; clear CC c0 c1 c2 c3))
        exact ⟨⟨j + 1, hlt, by first | rfl | (rw [Int.natCast_add]; rfl) | go_num, ⟨_, _, _, _, _, _, S4.out, T9.out⟩⟩, MEAS.out⟩
    · have hj1 : ¬ (j : Int) < N := by omega
      have LG := Lib.hid (rlife_log T0.out FIT.out.1 I0.out LOW.out _ ps (HPS.out _ (CW.out.trans T0.out.chg)) HPB0.out)
      have LCUT : Hid (∀ keeps, ((Wl.logJ y J (scErr J.ep J.next ps) (ps.map pdOf)).bay.cut keeps).Low 999990000) := fun keeps => by
        have m := Wl.logJ_low (ST.out.low HW.out) J (scErr J.ep J.next ps) (ps.map pdOf)
        refine wl_low_cut (m.mono ?_) (two_calm (ST.out.calm.trans (Calm.log _ _ _ _))) keeps
        have h5 : ps.length ≤ 5000 := HP5.out
        rw [List.length_map]
        omega
      have LAST : Hid ((Wl.logJ y J (scErr J.ep J.next ps) (ps.map pdOf)).err = 0 → ∀ (ts : List Thing) (e : Ending) (w' : World), Opnd w4 b ((Wl.logJ y J (scErr J.ep J.next ps) (ps.map pdOf)).bay.cut [bs]) 0 (n : Int) ts e w' →
          ∃ d J', Again w4 b ((Wl.logJ y J (scErr J.ep J.next ps) (ps.map pdOf)).bay.cut [bs]) 0 d J' L ts e w' ∧ J'.next = J.next ∧ J'.Fit ∧ (Wl.logJ y J (scErr J.ep J.next ps) (ps.map pdOf)).jn.next = J.next ∧ J.next - L.length + L.length = J.next ∧ ∀ l ∈ L, Sc.Good l) :=
        fun h0 ts e w' hO => ST.out.last (by have := HNW.out; omega) (fun p hp => (HPB0.out p hp).1) h0 [bs] hO
      obtain ⟨OUT, hOUT⟩ : ∃ OUT, OUT = Wl.logJ y J (scErr J.ep J.next ps) (ps.map pdOf) := ⟨_, rfl⟩
      rw [← hOUT] at LG LCUT LAST
      replace hOUT := Lib.hid hOUT
      clear HVN HN
      by_cases he : OUT.err = 0
      case neg =>
        have hne : (OUT.err != 0) = true := by simpa using he
        clear LCUT LAST
        go_wp2_with (go_at_call 30; refine LG.out.mono ?_; rintro e w9 ⟨rfl, T9⟩)
        go_ret
        exact ⟨rfl, CW.out.trans T9.out.chg⟩
      case pos =>
      have AG := Lib.hid (LAST.out he)
      clear LAST
      go_wp2_with (go_at_call 30; refine LG.out.mono ?_; rintro e w9 ⟨rfl, T9⟩)
      obtain ⟨cv, F9, so, sc, sr, H9⟩ := T9.out
      obtain ⟨wA, hwA⟩ : ∃ wA, wA = w9.alloc (.cells #[.slice ko bs.length kc] 59) := ⟨_, rfl⟩
      have BX : Blk wA w9.heap.size 59 [.slice ko bs.length kc] := by rw [hwA]; exact Blk.made w9 [.slice ko bs.length kc] 59
      have HA : Side w4 wA (jts b W D R OUT.jn cv OUT.bay F9 (lifeT x (.slice so vals.length sc) sr lv :: ownT 58 (.slice so vals.length sc) vals :: [])) := by rw [hwA]; exact H9.quiet ((Chg.refl [] _).alloc _)
      have KB : BRs wA (.slice (some ⟨w9.heap.size, 0, none⟩) 1 1) [⟨.slice ko bs.length kc, bs⟩] := by
        refine .inr ⟨_, 0, 1, rfl, BX.lt, (show 1 ≤ 140737488355328 by decide), fun i d hd => ?_⟩
        have hi : i < 1 := (List.getElem?_eq_some_iff.1 hd).1
        obtain rfl : i = 0 := by omega
        obtain rfl : _ = d := Option.some.inj hd
        exact ⟨BX.cell (j := 0) rfl, HK.out.chgNil (CW.out.trans HA.chg), hkl.out⟩
      have CUT := bcut_any b F9 OUT.bay wA (HA.get 0 rfl) _ _ KB (fun _ k hk => by
          obtain rfl : w9.heap.size = k := Option.some.inj hk
          refine ⟨fun hm => ?_, BX.lt⟩
          have := (H9.get 0 rfl : BayIn _ _ _ _).lt _ hm
          omega) (fun d hd hn k hk => by
          obtain rfl : d = ⟨.slice ko bs.length kc, bs⟩ := by simpa using hd
          have h1 := RdV.old (HK.out.chgNil CW.out) (by simpa using hn) k hk
          have h2 := HA.chg.size
          exact ⟨fun hm => by have := HA.new _ (List.mem_of_getElem? (i := 0) rfl) k hm; omega, by omega⟩)
      rw [show ([⟨.slice ko bs.length kc, bs⟩] : List BoolD).map (·.bs) = [bs] from rfl] at CUT
      replace CUT := Lib.hid CUT
      replace HA := Lib.hid HA
      rw [← hwA]
      clear BX KB hwA H9 T9 LG
      refine CUT.out.mono ?_
      rintro e wd ⟨rfl, T⟩
      obtain ⟨Fc, Hc⟩ := HA.out.act 0 rfl T.out
      have Hc : Side w4 wd (BayT b (OUT.bay.cut [bs]) Fc :: devT D b OUT.jn.slot OUT.jn.br :: walT W D R OUT.jn cv :: ringT R OUT.jn.S OUT.jn.t OUT.jn.u :: comT cv OUT.jn.commit :: lifeT x (.slice so vals.length sc) sr lv :: ownT 58 (.slice so vals.length sc) vals :: []) := Hc
      have OP := Lib.hid (wopen_any Hc 0 (n : Int) ⟨by decide, by decide⟩ ⟨by omega, by omega⟩ (LCUT.out [bs]))
      clear CUT HA T LCUT Hc
      go_wp2_with fail
      refine OP.out.mono ?_
      intro e wo hO
      obtain ⟨d, J', ⟨W', D', R', tv, T, F', y', hf, -, rfl, H6⟩, hn1, hf2, hn2, hsum, hgood⟩ := AG.out _ _ _ hO
      clear OP AG hO
      have hT : T.length = vals.length := by rw [ST.out.len, ← hf, found_len]
      have hLT : L.length = T.length := by rw [← hf, found_len]
      obtain ⟨M, hM⟩ : ∃ M, M = vals.length := ⟨_, rfl⟩
      rw [hn1, hLT, hT, ← hM] at H6
      rw [hLT, hT, ← hM] at hsum
      rw [← hM] at hT
      obtain ⟨sq, hsq⟩ : ∃ sq, sq = J.next - M := ⟨_, rfl⟩
      rw [← hsq] at H6 hsum
      obtain ⟨lo, lc, htv⟩ : ∃ lo lc, tv = .slice lo M lc := by
        have ow : OwnW 2 wo 0 92 tv (txSlots sq T) := H6.out.get 5 rfl
        obtain ⟨lo, lc, h⟩ := ow.rd.slice
        rw [txSlots_len, hT] at h
        exact ⟨lo, lc, h⟩
      subst htv
      obtain ⟨xN, hxN⟩ : ∃ z : Int, z = (J.next : Int) := ⟨_, rfl⟩
      have HQ : Hid (∀ m, Side w4 (wo.drewN m) _) := fun m => H6.out.quiet ((Chg.refl [] wo).drewN m)
      have NV : Hid (∀ m, Calls Tryz.prog 43 #[.pointer (some ⟨W', 0, none⟩)] (wo.drewN m) fun e w' => e = .returned (.int .u64 xN) ∧ ∃ q, w' = (wo.drewN m).drewN q) := fun m => by
        rw [hxN]
        have hw := (HQ.out m).get 2 rfl
        exact wnext_any (J := Wl.begun 0 J'.S ⟨J'.ep, sq, (J'.t : Nat)⟩ J'.u J.next) hw
      have NW : Hid (∀ m, Calls Tryz.prog 43 #[.pointer (some ⟨W, 0, none⟩)] (wo.drewN m) fun e w' => e = .returned (.int .u64 xN) ∧ ∃ q, w' = (wo.drewN m).drewN q) := fun m => by
        rw [hxN, ← hn2]
        exact wnext_any ((HQ.out m).get 9 rfl)
      have xc : wo.cell? ⟨x, 0, none⟩ = some (.slice so M sc) := by
        exact (H6.out.get 12 rfl : Blk _ _ _ [.slice so M sc, .int .i64 sr, lv]).cell (j := 0) rfl
      have ARE : Hid (∀ m, Calls Tryz.prog 45 #[.slice lo M lc, .slice so M sc, .int .i64 (M : Int)] (wo.drewN m) fun e w' => e = .returned (.bool true) ∧ ∃ q, w' = (wo.drewN m).drewN q) := fun m => by
        have hMx : M ≤ 100000 := by rw [hM, ST.out.len]; have := FIT.out.2.2.2.2; omega
        refine are_any (wo.drewN m) lo so lc sc M sq hMx (by have := FIT.out.2.2.2.1; omega) (fun k hk => ?_)
        obtain ⟨t, ht⟩ : ∃ t, T[k]? = some t := ⟨_, List.getElem?_eq_getElem (by omega)⟩
        have Hm := HQ.out m
        have h2 := Hm.sub (.cons _ (.cons _ (.cons _ (.cons _ (.cons _ (List.Sublist.refl _))))))
        obtain ⟨g, c, ao, c2, e1, e2, c0, c1⟩ := found_at h2 ht
        have e1 : lo = some ⟨g, 0, none⟩ := (Value.slice.inj e1).1
        have pw : PoolW 3 (wo.drewN m) 105 (listsOf T) := h2.get 1 rfl
        have pd : Pool (wo.drewN m) (dataOf T) := h2.get 2 rfl
        have ow := pw.row (t.1, t.2.map pvSlot) (List.mem_of_getElem? (i := k) (by unfold listsOf; rw [List.getElem?_map, ht]; rfl))
        have Rw : ∀ p ∈ t.2, OwnR (wo.drewN m) 0 p.2 (ub p.1.bs).length (ub p.1.bs) := fun p hp => pd.row (pvRow p) (List.mem_flatMap.2 ⟨t, List.mem_of_getElem? ht, List.mem_map_of_mem hp⟩)
        have eL : L[k]? = some (dOf t.2) := by rw [← hf]; unfold found; rw [List.getElem?_map, ht]; rfl
        have hg := hgood _ (List.mem_of_getElem? eL)
        have hl : t.2.length ≤ 1023 := by have := hg.2.1; unfold dOf at this; rw [List.length_map] at this; exact this
        have P := pts_of2 ow Rw (by omega) (fun p hp => by rw [(hg.2.2 p.1 (List.mem_map_of_mem hp)).2.2.1]; decide)
        obtain ⟨u, hu⟩ : ∃ u, vals[k]? = some u := ⟨_, List.getElem?_eq_getElem (by omega)⟩
        obtain ⟨qs, Q1, Q2, Q3⟩ := (ST.out.rel k u _ hu eL).chg (CW.out.trans Hm.chg)
        obtain ⟨al, alike⟩ := pts_alike Q2 Q3 rfl
        obtain ⟨yo, yc, rfl⟩ := Q1.slice
        have h0 : (wo.drewN m).ownsRow 0 58 1 (.slice so M sc) vals.length vals := Hm.get 13 rfl
        rcases h0.2 with ⟨_, hz⟩ | ⟨g2, cap, cur, ev, _, _, _⟩
        · omega
        · have eso : so = some ⟨g2, 0, none⟩ := (Value.slice.inj ev).1
          subst eso
          have c3 := h0.cells (g := g2) rfl k _ hu
          rw [Addr.add_lit, Nat.zero_add] at c3
          have elen : (t.2.map toPt).length = t.2.length := List.length_map _
          refine ⟨g, ao, c2, g2, yo, yc, t.2.map toPt, qs, e1, rfl, c0, ?_, ?_, ?_, ?_, by rw [elen]; exact al, alike⟩
          · rw [elen, ← e2]; exact c1
          · rw [elen, al]; exact c3
          · rw [elen, ← e2]; exact P
          · rw [elen, al]; exact Q1
      have CE : Hid (∀ m, Chg [] w (wo.drewN m)) := fun m => (CW.out.trans H6.out.chg).drewN m
      clear HQ H6 hxN hM hT hLT hf hsq hsum hn1 hn2 hgood hf2 ST T0 FIT LOW I0 HPS HPB0 HK hkl hOUT hbig
      go_wp2_with fail
      go_quiet (first
        | (go_at_call 45; exact Calls.quiet_of (ARE.out _))
        | (go_at_call 43; first | exact Calls.quiet_of (NV.out _) | exact Calls.quiet_of (NW.out _)))
      go_wp2_with fail
      go_ret
      exact ⟨rfl, CE.out _⟩

end Go.Proofs.YtaggfbgbmiifaaaGreat
