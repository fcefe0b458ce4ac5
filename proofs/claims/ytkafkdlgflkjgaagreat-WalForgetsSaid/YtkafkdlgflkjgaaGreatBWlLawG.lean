/-
  WalForgets' walk. By an AI agent.
-/
import Derived.Test.YtkafkdlgflkjgaaGreatBWlLawU
import Derived.Test.YtkafkdlgflkjgaaGreatBWlLawC
namespace Go.Proofs.YtkafkdlgflkjgaaGreat
open Go.RowKit Go.Maps Crc

/-- How a journal stands behind a checkpoint and so many ops, and what is kept of it. -/
structure FgSt (w : World) (fs : List WOpD) (n m : Nat) (y : Bay) (J : Wl.Jn) (L : List (List Pd)) (G : Option (List Pd)) (sr : Nat) (vals : List Value) (lv : Value) (base : Nat) : Prop where
  st : ∃ d, Wl.Ok y J d (6000 + m) ∧ Wl.Keeps d J L G ∧ Wl.Dur d J L sr
  slot : J.slot = 0
  size : J.S = n
  calm : Calm (Wl.twoBay n) y
  low : y.Low (21000 + 3 * wopW fs m)
  len : vals.length = L.length
  rel : ∀ (i : Nat) (u : Value) (l : List Pd), vals[i]? = some u → L[i]? = some l → PRel w u l
  log : ∀ l, G = some l → PRel w lv l
  sl : ∃ o n c, lv = .slice o n c
  base : J.next = base + L.length

theorem Wl.fcallJ_low {y : Bay} {J : Wl.Jn} {a : WOpD} {L : Nat} (h : y.Low L) : (Wl.callJ y J a).bay.Low (L + 3 * a.weight) := by
  have hw : 1 + a.pts.length ≤ a.weight := by unfold WOpD.weight; omega
  unfold Wl.callJ
  split
  · have := Wl.logJ_low h J (scErr J.ep J.next a.pts) (a.pts.map pdOf)
    rw [List.length_map] at this
    exact this.mono (by omega)
  split
  · exact (Wl.sealJ_low h J).mono (by omega)
  split
  · exact (Wl.syncJ_low h J).mono (by omega)
  split
  · exact (Wl.passJ_low h J J.ep).mono (by omega)
  split
  · exact (Wl.passJ_low h J (J.ep + 1)).mono (by omega)
  · exact h.mono (by omega)

theorem Wl.Ok.upto {y : Bay} {J : Wl.Jn} {d : Dk} {B C : Nat} (h : Wl.Ok y J d B) (k : B ≤ C) : Wl.Ok y J d C := ⟨h.up, h.size, h.lo, h.hi, h.tail, h.used, h.br, Nat.le_trans h.next k, Nat.le_trans h.ep k, h.com, h.cost⟩

section
variable {w : World} {fs : List WOpD} {n m : Nat} {y : Bay} {J : Wl.Jn} {L : List (List Pd)} {G : Option (List Pd)} {sr : Nat} {vals : List Value} {lv : Value} {a : WOpD} {base : Nat}

theorem FgSt.idle (h : FgSt w fs n m y J L G sr vals lv base) (ha : fs[m]? = some a) : FgSt w fs n (m + 1) y J L G sr vals lv base := by
  obtain ⟨d, s, k, u⟩ := h.st
  exact ⟨⟨d, s.upto (by omega), k, u⟩, h.slot, h.size, h.calm, h.low.mono (by rw [wopW_succ ha]; omega), h.len, h.rel, h.log, h.sl, h.base⟩

theorem FgSt.fit (h : FgSt w fs n m y J L G sr vals lv base) (hm : m ≤ 5000) : J.Fit ∧ L.length ≤ 11000 ∧ J.next ≤ 11000 := by
  obtain ⟨d, s, k, u⟩ := h.st
  have h1 := s.next
  have h2 := k.nx
  exact ⟨s.fit (by omega), by omega, by omega⟩

theorem FgSt.lows (h : FgSt w fs n m y J L G sr vals lv base) (hw : wopW fs fs.length ≤ 5000) : y.Low 40000 := h.low.mono (by have := (wopW_le hw).2 m; omega)

theorem FgSt.call (h : FgSt w fs n m y J L G sr vals lv base) (hm : m ≤ 5000) (ha : fs[m]? = some a) (hb : ∀ p ∈ a.pts, By p.d) (hp : Pts w a.ptsV a.pts) (hk : a.kind < 4) :
    ((Wl.callJ y J a).err ≠ 0 → FgSt w fs n (m + 1) (Wl.callJ y J a).bay (Wl.callJ y J a).jn L G sr vals lv base) ∧
    ((Wl.callJ y J a).err = 0 → ∃ L' G' sr', FgSt w fs n (m + 1) (Wl.callJ y J a).bay (Wl.callJ y J a).jn L' G' sr' (lifeV a.kind lv vals) (lifeL a.kind lv a.ptsV) base ∧ (sr' : Int) = lifeS a.kind sr vals) := by
  obtain ⟨d, s, k, u⟩ := h.st
  obtain ⟨⟨d', s'⟩, hsl, hsz⟩ := Wl.call_ok (a := a) s hb
  obtain ⟨x, ux, k', hn, hs⟩ := k.call (a := a) s (by omega) hb
  obtain ⟨x2, ux2, u'⟩ := Wl.Dur.call (a := a) s k u hb hk
  have us := s'.up
  rw [hsl] at us
  obtain rfl : d' = x := by have := us.dev.symm.trans ux.dev; simpa using this
  obtain rfl : d' = x2 := by have := us.dev.symm.trans ux2.dev; simpa using this
  have hc := h.calm.trans (Calm.call y J a)
  have lo : (Wl.callJ y J a).bay.Low (21000 + 3 * wopW fs (m + 1)) := (Wl.fcallJ_low h.low).mono (by rw [wopW_succ ha]; omega)
  have s2 : Wl.Ok (Wl.callJ y J a).bay (Wl.callJ y J a).jn d' (6000 + (m + 1)) := s'.upto (by omega)
  refine ⟨fun he => ?_, fun he => ?_⟩
  · have ea : Wl.after a (Wl.callJ y J a).err L G = (L, G) := by unfold Wl.after; rw [if_pos he]
    rw [ea] at k' u'
    rw [if_neg (fun q => he q.1)] at u'
    rw [if_neg (fun q => he q.2)] at hn
    exact ⟨⟨d', s2, k', u'⟩, hsl.trans h.slot, hsz.trans h.size, hc, lo, h.len, h.rel, h.log, h.sl, by rw [hn]; exact h.base⟩
  · by_cases k1 : a.kind = 1
    · have ea : Wl.after a (Wl.callJ y J a).err L G = (L, some (a.pts.map pdOf)) := by unfold Wl.after; rw [if_neg (fun q => q he), if_pos k1]
      rw [ea] at k' u'
      rw [if_pos ⟨he, .inl k1⟩] at u'
      rw [if_neg (by omega)] at hn
      have e1 : Wl.callJ y J a = Wl.logJ y J (scErr J.ep J.next a.pts) (a.pts.map pdOf) := by unfold Wl.callJ; rw [if_pos k1]
      have e0 : scErr J.ep J.next a.pts = 0 := log_err0 (by rw [← e1]; exact he)
      have hv : lifeV a.kind lv vals = vals := by unfold lifeV; rw [if_neg (by omega), if_neg (by omega)]
      have hl : lifeL a.kind lv a.ptsV = a.ptsV := by unfold lifeL; rw [if_pos k1]
      have hS : lifeS a.kind sr vals = (vals.length : Int) := by unfold lifeS; rw [if_pos (.inl k1)]
      rw [hv, hl, hS]
      obtain ⟨o, c, q⟩ := hp.slice
      exact ⟨L, some (a.pts.map pdOf), L.length, ⟨⟨d', s2, k', u'⟩, hsl.trans h.slot, hsz.trans h.size, hc, lo, h.len, h.rel, fun l hl => by
        obtain rfl := Option.some.inj hl
        exact ⟨a.pts, hp, rfl, (scErr_zero e0 hb).2.2⟩, ⟨o, _, c, q⟩, by rw [hn]; exact h.base⟩, by rw [h.len]⟩
    by_cases k2 : a.kind = 2
    · have ea : Wl.after a (Wl.callJ y J a).err L G = (L ++ G.toList, none) := by unfold Wl.after; rw [if_neg (fun q => q he), if_neg k1, if_pos k2]
      rw [ea] at k' u'
      rw [if_neg (by omega)] at u'
      rw [if_pos ⟨k2, he⟩] at hn
      have e1 : Wl.callJ y J a = Wl.sealJ y J := by unfold Wl.callJ; rw [if_neg k1, if_pos k2]
      obtain ⟨l, hG⟩ : ∃ l, G = some l := by
        rcases s.sealing with ⟨_, q⟩ | ⟨c, _, q, _⟩
        · rw [e1, q] at he
          cases he
        · rw [k.com] at q
          cases hG : G with
          | none => rw [hG] at q; cases q
          | some l => exact ⟨l, rfl⟩
      subst hG
      have hv : lifeV a.kind lv vals = vals ++ [lv] := by unfold lifeV; rw [if_pos k2]
      have hl : lifeL a.kind lv a.ptsV = .slice none 0 0 := by unfold lifeL; rw [if_neg k1, if_pos (.inl k2)]
      have hS : lifeS a.kind sr vals = (sr : Int) := by unfold lifeS; rw [if_neg (by omega), if_neg (by omega)]
      rw [hv, hl, hS]
      refine ⟨L ++ [l], none, sr, ⟨⟨d', s2, k', u'⟩, hsl.trans h.slot, hsz.trans h.size, hc, lo, by rw [List.length_append, List.length_append, h.len]; rfl, fun i u l' hu hl' => ?_, fun l' hl' => (by cases hl'), ⟨_, _, _, rfl⟩, by rw [hn, h.base, List.length_append, List.length_singleton]; omega⟩, rfl⟩
      by_cases q : i < vals.length
      · rw [List.getElem?_append_left q] at hu
        rw [List.getElem?_append_left (by rw [← h.len]; exact q)] at hl'
        exact h.rel i u l' hu hl'
      · rw [List.getElem?_append_right (by omega)] at hu
        rw [List.getElem?_append_right (by rw [← h.len]; omega), ← h.len] at hl'
        obtain ⟨m', hm'⟩ : ∃ m', m' = i - vals.length := ⟨_, rfl⟩
        rw [← hm'] at hu hl'
        cases m' with
        | zero =>
          obtain rfl : lv = u := by simpa using hu
          obtain rfl : l = l' := by simpa using hl'
          exact h.log l rfl
        | succ m' => simp at hu
    · have ea : Wl.after a (Wl.callJ y J a).err L G = (L, G) := by unfold Wl.after; rw [if_neg (fun q => q he), if_neg k1, if_neg k2, if_neg (by omega)]
      rw [ea] at k' u'
      rw [if_neg (by omega)] at hn
      have hv : lifeV a.kind lv vals = vals := by unfold lifeV; rw [if_neg k2, if_neg (by omega)]
      have hl : lifeL a.kind lv a.ptsV = lv := by unfold lifeL; rw [if_neg k1, if_neg (by omega)]
      rw [hv, hl]
      refine ⟨L, G, _, ⟨⟨d', s2, k', u'⟩, hsl.trans h.slot, hsz.trans h.size, hc, lo, h.len, h.rel, h.log, h.sl, by rw [hn]; exact h.base⟩, ?_⟩
      unfold lifeS
      by_cases k3 : a.kind = 3
      · rw [if_pos ⟨he, .inr k3⟩, if_pos (.inr k3), h.len]
      · rw [if_neg (by omega), if_neg (by omega), if_neg (by omega)]

/-- Behind the cut. -/
theorem FgSt.open (h : FgSt w fs n m y J L G sr vals lv base) (hm : m ≤ 5000) (keep : List Bool) {w0 w' : World} {b : Nat} {ts : List Thing} {e : Ending} (hO : Opnd w0 b (y.cut [keep]) 0 (n : Int) ts e w') :
    ∃ d J' Lf, Again w0 b (y.cut [keep]) 0 d J' Lf ts e w' ∧ Lf = L.take Lf.length ∧ sr ≤ Lf.length ∧ Lf.length ≤ L.length ∧ J'.next = base + Lf.length ∧ J'.next ≤ 11000 ∧ ∀ l ∈ L, Sc.Good l := by
  obtain ⟨d, s, k, u⟩ := h.st
  have hu := s.up
  rw [h.slot] at hu
  have hc : NoCome y 0 := h.calm.none (by
    unfold NoCome Wl.twoBay Bay.new Bay.slotOf
    rfl)
  obtain ⟨u2, _⟩ := Wl.up_cut hu hc [keep]
  obtain ⟨Jf, Lf, Gf, q1, q2, q3, q4, q5, q6, q7, q8, q9, q10, q11⟩ := Wl.Dur.cut s (by omega) k u keep
  have u3 : (y.cut [keep]).Up 0 ({ d with last := (Dk.kept keep 0 d.cache).foldl Dk.lay d.last, cache := [] } : Dk) := u2
  have hz := s.size
  have h5 := s.lo
  have h6 := s.hi
  have h7 := h.size
  have hb := h.base
  have hnx := s.next
  have hkn := k.nx
  rw [← h7, ← q7] at hO
  have ag := opnd_keeps hO u3 q1 (by omega) (by omega) q8 (by
    show 2 + Jf.S ≤ ((Dk.kept keep 0 d.cache).foldl Dk.lay d.last).length
    rw [Dk.lays_length]
    omega) q9 q10
  exact ⟨_, Jf, Lf, ag, q2, q3, q4, by omega, by omega, k.good⟩

end

/-- The journal in memory, and what is kept of it, to the number. -/
def RLif (w0 : World) (b W D R : Nat) (J : Wl.Jn) (y : Bay) (x : Nat) (sr : Int) (vals : List Value) (lv : Value) (w' : World) : Prop :=
  ∃ cv F so sc, Side w0 w' (jts b W D R J cv y F (lifeT x (.slice so vals.length sc) sr lv :: ownT 58 (.slice so vals.length sc) vals :: []))

section
variable {w0 w' : World} {b W D R x : Nat} {J : Wl.Jn} {y : Bay} {sr : Int} {vals : List Value} {lv : Value}

theorem RLif.chg (h : RLif w0 b W D R J y x sr vals lv w') : Chg [] w0 w' := by
  obtain ⟨cv, F, so, sc, H⟩ := h
  exact H.chg

theorem RLif.make {cv : Value} {F : List Nat} (H : Side w0 w' (jts b W D R J cv y F [])) : RLif w0 b W D R J y w'.heap.size 0 [] (.slice none 0 0) (w'.alloc (.cells #[.slice none 0 0, .int .i64 0, .slice none 0 0] 81)) := by
  have h1 := H.behind 81 [.slice none 0 0, .int .i64 0, .slice none 0 0]
  have h2 := h1.add (b := ownT 58 (.slice none 0 0) []) (Chg.refl _ _) (World.ownsRow_nil _ _ _ _) (fun k hk => by cases hk)
  exact ⟨cv, F, none, 0, h2.perm (by
    show ([_] ++ [_, _, _, _, _, _]).Perm ([_, _, _, _, _, _] ++ [_])
    exact List.perm_append_comm)⟩

theorem rlif_call (a : WOpD) (h : RLif w0 b W D R J y x sr vals lv w') (hf : J.Fit) (hs : I64 J.slot) (hl : y.Low 999990000) (h2 : Pts w' a.ptsV a.pts) (hb : ∀ p ∈ a.pts, By p.d ∧ Cap p.v) (h3 : ∃ o n c, a.keepV = .slice o n c) :
    Calls Tryz.prog 38 #[.pointer (some ⟨W, 0, none⟩), .agg #[.int .i64 a.kind, .int .i64 a.num, a.ptsV, a.keepV]] w' fun e w'' => e = .returned (.int .u16 (Wl.callJ y J a).err) ∧ Hid (RLif w0 b W D R (Wl.callJ y J a).jn (Wl.callJ y J a).bay x sr vals lv w'') := by
  obtain ⟨cv, F, so, sc, H⟩ := h
  refine (calls_any H hf hs hl a h2 hb h3).mono ?_
  rintro e w'' ⟨h1, F2, cv2, h2⟩
  exact ⟨h1, cv2, F2, so, sc, h2.out⟩

theorem rlif_does (h : RLif w0 b W D R J y x sr vals lv w') (hv : vals.length ≤ 100000) (hl : ∃ o n c, lv = .slice o n c) (k num : Int) (po : Option Addr) (pn pc : Nat) (ko : Option Addr) (kn kc : Nat) :
    Calls Tryz.prog 39 #[.pointer (some ⟨x, 0, none⟩), .agg #[.int .i64 k, .int .i64 num, .slice po pn pc, .slice ko kn kc]] w' fun e w'' => e = .returned (.tuple #[]) ∧ Hid (RLif w0 b W D R J y x (lifeS k sr vals) (lifeV k lv vals) (lifeL k lv (.slice po pn pc)) w'') := by
  obtain ⟨cv, F, so, sc, H⟩ := h
  have H2 : Side w0 w' (lifeT x (.slice so vals.length sc) sr lv :: ownT 58 (.slice so vals.length sc) vals :: jts b W D R J cv y F []) := H.perm (by
    show ([_, _, _, _, _] ++ [_, _]).Perm ([_, _] ++ [_, _, _, _, _])
    exact List.perm_append_comm)
  refine (does_any H2 hv k num po pn pc ko kn kc hl).mono ?_
  rintro e w'' ⟨h1, sv, h2⟩
  obtain ⟨so2, sc2, rfl⟩ := owns_slice (show w''.ownsRow 0 58 1 sv (lifeV k lv vals).length (lifeV k lv vals) from h2.out.get 1 rfl)
  exact ⟨h1, cv, F, so2, sc2, h2.out.perm (by
    show ([_, _] ++ [_, _, _, _, _]).Perm ([_, _, _, _, _] ++ [_, _])
    exact List.perm_append_comm)⟩

end

set_option maxHeartbeats 1000000 in
set_option maxRecDepth 100000 in
theorem may_any (w : World) (x : Nat) (so lo : Option Addr) (sc lc M N : Nat) (sr : Int) (lv : Value) (B : Blk w x 81 [.slice so M sc, .int .i64 sr, lv])
    (ARE : ∀ m, Calls Tryz.prog 45 #[.slice lo N lc, .slice so M sc, .int .i64 sr] (w.drewN m) fun e w' => e = .returned (.bool true) ∧ ∃ q, w' = (w.drewN m).drewN q) :
    Calls Tryz.prog 41 #[.pointer (some ⟨x, 0, none⟩), .slice lo N lc, .int .i64 0] w fun e w' => e = .returned (.bool true) ∧ ∃ q, w' = w.drewN q := by
  have c0 := B.cell (j := 0) rfl
  have c1 := B.cell (j := 1) rfl
  have AR := Lib.hid (ARE 0)
  clear ARE B
  go_enter Tryz.func41, Tryz.ntmps41
  go_wp2_with (go_at_call 45; refine AR.out.mono ?_; rintro e w' ⟨rfl, q, rfl⟩)
  go_ret
  exact ⟨rfl, _, rfl⟩

/-- Behind the first calls, Sync and a checkpoint. -/
theorem fg_begin {w : World} {es fs : List WOpD} {n j : Nat} {y : Bay} {J : Wl.Jn} (h : RSt es n j y J) (hj : j ≤ 5000) (hw : wopW es es.length ≤ 5000) (hc : Calm (Wl.twoBay n) y) (r : Bool) :
    (Wl.syncJ y J).jn.Fit ∧ (Wl.syncJ y J).jn.slot = 0 ∧ (Wl.syncJ y J).bay.Low 20001 ∧ (Wl.passJ (Wl.syncJ y J).bay (Wl.syncJ y J).jn (if r = true then (Wl.syncJ y J).jn.ep + 1 else (Wl.syncJ y J).jn.ep)).err = 0 ∧
    FgSt w fs n 0 (Wl.passJ (Wl.syncJ y J).bay (Wl.syncJ y J).jn (if r = true then (Wl.syncJ y J).jn.ep + 1 else (Wl.syncJ y J).jn.ep)).bay (Wl.passJ (Wl.syncJ y J).bay (Wl.syncJ y J).jn (if r = true then (Wl.syncJ y J).jn.ep + 1 else (Wl.syncJ y J).jn.ep)).jn [] none 0 [] (.slice none 0 0) (Wl.passJ (Wl.syncJ y J).bay (Wl.syncJ y J).jn (if r = true then (Wl.syncJ y J).jn.ep + 1 else (Wl.syncJ y J).jn.ep)).jn.next := by
  have lw := h.low hw
  obtain ⟨d, B, Lw, L, G, s, k⟩ := h
  have hB := s.b
  obtain ⟨d1, o1, k1, hs, a1, a2, a3, a4⟩ := Wl.Keeps.synced s.ok k
  have l1 := Wl.syncJ_low lw J
  have c1 : Calm y (Wl.syncJ y J).bay := by
    unfold Wl.syncJ
    split
    · rfl
    · rw [Wl.ends_bay]
      exact Calm.fl J.slot (y, J.br)
  generalize Wl.syncJ y J = O1 at *
  obtain ⟨e, d2, o2, k2, u2, b1, b2, b3⟩ := Wl.Keeps.fresh (ep := if r = true then O1.jn.ep + 1 else O1.jn.ep) o1 (by omega) k1 hs (by cases r; exact .inl rfl; exact .inr rfl)
  refine ⟨o1.fit (by omega), a1.trans s.slot, l1, e, ⟨d2, o2.upto (by omega), k2, u2⟩, b1.trans (a1.trans s.slot), b2.trans (a2.trans s.size), (hc.trans c1).trans (Calm.pass _ _ _), (Wl.passJ_low l1 O1.jn _).mono (by omega), rfl, fun i u l h => (by simp at h), fun l h => (by cases h), ⟨_, _, _, rfl⟩, rfl⟩

set_option maxHeartbeats 4000000 in
set_option maxRecDepth 10000000 in
theorem wforgets_any (w : World) (ring : Int) (hr : I64 ring) (v : Value) (es : List WOpD) (hv : WOps w v es) (renew : Bool) (v2 : Value) (fs : List WOpD) (hv2 : WOps w v2 fs) (kv : Value) (bs : List Bool) (hk : RdV w kv (bs.map Value.bool)) (hkl : bs.length ≤ 140737488355328) :
    Calls Tryz.prog 8 #[.int .i64 ring, v, .bool renew, v2, kv] w fun e w' => e = .returned (.bool true) ∧ Chg [] w w' := by
  have MU := Lib.hid (wmuch_any v es w hv)
  have MU2 : Hid (∀ q, Calls Tryz.prog 12 #[v2] (w.drewN q) (WMuch (w.drewN q) fs)) := fun q => wmuch_any v2 fs _ (hv2.chg ((Chg.refl [] w).drewN q))
  have HVS : Hid (∀ w', Chg [] w w' → WOps w' v es) := fun w' c => hv.chg c
  have HVS2 : Hid (∀ w', Chg [] w w' → WOps w' v2 fs) := fun w' c => hv2.chg c
  have HK := Lib.hid hk
  have KN : Hid (∀ w', Calls Tryz.prog 14 #[] w' fun e w'' => e = .returned (.bool true) ∧ Hid (Chg [] w' w'')) := wknown_any
  obtain ⟨vo, vc, rfl⟩ := hv.slice
  obtain ⟨po, pc, rfl⟩ := hv2.slice
  obtain ⟨ko, kc, rfl⟩ := hk.slice
  rw [List.length_map] at HK ⊢
  replace hkl := Lib.hid hkl
  clear hv hv2 hk
  go_enter Tryz.func8, Tryz.ntmps8
  go_wp2_with fail
  refine MU.out.mono ?_
  rintro e w1 ⟨mb, rfl, hsm, q, rfl⟩
  replace hsm := Lib.hid hsm
  clear MU
  cases mb with
  | true =>
    go_wp2_with fail
    go_ret
    exact ⟨rfl, (Chg.refl [] w).drewN q⟩
  | false =>
  have HW : Hid (wopW es es.length ≤ 5000) := hsm.out rfl
  clear hsm
  go_wp2_with fail
  refine (MU2.out q).mono ?_
  rintro e w3 ⟨mb, rfl, hsm, q3, rfl⟩
  replace hsm := Lib.hid hsm
  clear MU2
  cases mb with
  | true =>
    go_wp2_with fail
    go_ret
    exact ⟨rfl, (Chg.refl [] w).drewN _⟩
  | false =>
  have HW2 : Hid (wopW fs fs.length ≤ 5000) := hsm.out rfl
  clear hsm
  obtain ⟨w4, hw4⟩ : ∃ w4, w4 = (w.drewN q).drewN q3 := ⟨_, rfl⟩
  have CW : Hid (Chg [] w w4) := by rw [hw4]; exact ((Chg.refl [] w).drewN q).drewN q3
  rw [← hw4]
  clear hw4
  by_cases hbig : (100000 : Int) < (bs.length : Int)
  · go_wp2_with fail
    go_ret
    exact ⟨rfl, CW.out⟩
  by_cases hin : 5 ≤ ring ∧ ring ≤ 2048
  case neg =>
    have BN := Lib.hid (begun_no ring hin w4)
    have K1 := Lib.hid (KN.out w4)
    clear KN HVS HVS2 HW HW2 HK
    by_cases h1 : ring < 5
    · clear hin
      go_wp2_with (first
        | (go_at_call 44; refine BN.out.mono ?_; rintro e w3 ⟨rfl, rfl⟩)
        | (go_at_call 14; refine K1.out.mono ?_; rintro e w3 ⟨rfl, C3⟩; clear K1 BN))
      go_ret
      exact ⟨rfl, CW.out.trans C3.out⟩
    · have h2 : 2048 < ring := by omega
      clear hin
      go_wp2_with (first
        | (go_at_call 44; refine BN.out.mono ?_; rintro e w3 ⟨rfl, rfl⟩)
        | (go_at_call 14; refine K1.out.mono ?_; rintro e w3 ⟨rfl, C3⟩; clear K1 BN))
      go_ret
      exact ⟨rfl, CW.out.trans C3.out⟩
  case pos =>
  obtain ⟨n, rfl⟩ : ∃ n : Nat, ring = n := ⟨ring.toNat, by omega⟩
  have n5 : 5 ≤ n := by omega
  have n2 : n ≤ 2048 := by omega
  have BG := Lib.hid (begun_ok (Side.nil (Chg.refl [] w4)) n5 n2)
  have S0 : Hid (RSt es n 0 (Wl.bgBay n) (Wl.bgJn n) ∧ Calm (Wl.twoBay n) (Wl.bgBay n)) := ⟨RSt.begin n5 n2, Calm.fmt _ _ _ _⟩
  clear hin hr
  go_wp2_with (first
    | (go_at_call 44; refine BG.out.mono ?_; rintro e w5 ⟨b, W, D, R, F, rfl, H5⟩; clear BG; have K1 := Lib.hid (KN.out w5); clear KN)
    | (go_at_call 14; refine K1.out.mono ?_; rintro e w7 ⟨rfl, C7⟩; clear K1; have H7 := Lib.hid (H5.out.quiet C7.out); clear H5 C7))
  obtain ⟨N, hN⟩ : ∃ N, N = es.length := ⟨_, rfl⟩
  obtain ⟨M, hM⟩ : ∃ M, M = fs.length := ⟨_, rfl⟩
  have HN := Lib.hid hN
  have HM := Lib.hid hM
  have HVN : Hid (∀ w', Chg [] w w' → WOps w' (.slice vo N vc) es) := fun w' c => by rw [hN]; exact HVS.out w' c
  have HVM : Hid (∀ w', Chg [] w w' → WOps w' (.slice po M pc) fs) := fun w' c => by rw [hM]; exact HVS2.out w' c
  have HNW : Hid (N ≤ 5000) := by rw [hN]; exact (wopW_le HW.out).1
  have HMW : Hid (M ≤ 5000) := by rw [hM]; exact (wopW_le HW2.out).1
  rw [← hN, ← hM]
  clear HVS HVS2 hN hM
  have hl0 : (0 : Int) ≤ N := Int.natCast_nonneg _
  have hl1 : (0 : Int) ≤ M := Int.natCast_nonneg _
  have H0 : Hid (∃ y J cv F, (RSt es n 0 y J ∧ Calm (Wl.twoBay n) y) ∧ Side w4 w7 (jts b W D R J cv y F [])) := ⟨_, _, _, _, S0.out, H7.out⟩
  clear S0 H7
  go_wp2_with fail
  go_loopw [13] (fun i wr => ∃ j : Nat, j ≤ N ∧ i = .int .i64 j ∧ Hid (∃ y J cv F, (RSt es n j y J ∧ Calm (Wl.twoBay n) y) ∧ Side w4 wr (jts b W D R J cv y F []))) (fun i _ => N - (intOf i).toNat)
  case atStart => exact ⟨0, Nat.zero_le _, rfl, H0⟩
  case round =>
    obtain ⟨j, hj, rfl, Hj⟩ := hrel
    clear H0
    have hj0 : (0 : Int) ≤ j := Int.natCast_nonneg _
    obtain ⟨y, J, cv, F, ST, H⟩ := Hj.out
    replace ST := Lib.hid ST
    replace H := Lib.hid H
    clear Hj
    have FIT := Lib.hid (ST.out.1.fit (by have := HNW.out; omega))
    have LOW := Lib.hid ((ST.out.1.low HW.out).mono (show 20000 ≤ 999990000 by decide))
    have I0 : Hid (I64 J.slot) := by rw [FIT.out.2.1]; exact ⟨by decide, by decide⟩
    by_cases hlt : j < N
    · have hj1 : (j : Int) < N := by omega
      obtain ⟨a, ha⟩ : ∃ a, es[j]? = some a := ⟨_, List.getElem?_eq_getElem (by have := HN.out; omega)⟩
      obtain ⟨bl, o, rfl, hbl, RI⟩ := (HVN.out _ (CW.out.trans H.out.chg)).at ha
      obtain ⟨x2, y2, e2⟩ := RI.s2.slice
      obtain ⟨x3, y3, e3⟩ := RI.s3.slice
      rw [List.length_map] at e3
      have HPB : ∀ p ∈ a.pts, By p.d ∧ Cap p.v := fun p hp => ⟨(RI.y2 p hp).1, (RI.y2 p hp).2⟩
      have c0 := RI.c0
      have c1 := RI.c1
      have c2 := RI.c2
      have c3 := RI.c3
      rw [e2] at c2
      rw [e3] at c3
      have CC := calls_any H.out FIT.out.1 I0.out LOW.out a RI.s2 HPB ⟨_, _, _, e3⟩
      rw [e2, e3] at CC
      replace CC := Lib.hid CC
      have S3 := Lib.hid (ST.out.1.call (by have := HNW.out; omega) ha (fun p hp => (HPB p hp).1)).1
      have S4 := Lib.hid (ST.out.2.trans (Calm.call y J a))
      obtain ⟨OUT, hOUT⟩ : ∃ OUT, OUT = Wl.callJ y J a := ⟨_, rfl⟩
      rw [← hOUT] at CC S3 S4
      have MEAS : Hid (N - (intOf (.int .i64 ((j : Int) + 1))).toNat < N - (intOf (.int .i64 (j : Int))).toNat) := meas_next hlt
      obtain ⟨wa, wb⟩ := sc_wrap (z := (j : Int) + 1) (by omega) (by have := HNW.out; omega)
      clear RI e2 e3 hOUT hbl HPB HVN HN FIT LOW I0 ST H
      go_wp2_with (go_at_call 38; refine CC.out.mono ?_; rintro e w9 ⟨rfl, F9, cv9, H9⟩; clear CC c0 c1 c2 c3)
      exact ⟨⟨j + 1, hlt, by first | rfl | (rw [Int.natCast_add]; rfl) | go_num, ⟨_, _, _, _, ⟨S3.out, S4.out⟩, H9.out⟩⟩, MEAS.out⟩
    · have hj1 : ¬ (j : Int) < N := by omega
      have FB := Lib.hid (fg_begin (w := w) (fs := fs) ST.out.1 (by have := HNW.out; omega) HW.out ST.out.2 renew)
      have SY := Lib.hid (wsync_any H.out I0.out (LOW.out.mono (by decide)))
      obtain ⟨O1, hO1⟩ : ∃ O1, O1 = Wl.syncJ y J := ⟨_, rfl⟩
      rw [← hO1] at FB SY
      obtain ⟨O2, hO2⟩ : ∃ O2, O2 = Wl.passJ O1.bay O1.jn (if renew = true then O1.jn.ep + 1 else O1.jn.ep) := ⟨_, rfl⟩
      rw [← hO2] at FB
      replace hO2 := Lib.hid hO2
      clear HVN HN hO1 ST H LOW FIT I0
      go_upto_if 61 with (go_at_call 32; refine SY.out.mono ?_; rintro e w9 ⟨rfl, F9, H9⟩; clear SY)
      go_cut [14] from 62 to 65 (fun s14 wx => s14 = .int .u16 0 ∧ Hid (∃ cv F, Side w4 wx (jts b W D R O2.jn cv O2.bay F [])))
      case first =>
        clear HVM HM
        have e0 := FB.out.2.2.2.1
        cases renew with
        | true =>
          have e2 : O2 = Wl.passJ O1.bay O1.jn (O1.jn.ep + 1) := hO2.out
          have RN := wrenew_any H9.out FB.out.1 (by rw [FB.out.2.1]; exact ⟨by decide, by decide⟩) (FB.out.2.2.1.mono (by decide))
          rw [← e2] at RN
          replace RN := Lib.hid RN
          clear e2 FB H9
          go_wp2_with (go_at_call 34; refine RN.out.mono ?_; rintro e wa ⟨rfl, Fa, Ha⟩)
          go_meet
          exact ⟨by first | rfl | rw [e0], ⟨_, _, Ha.out⟩⟩
        | false =>
          have e2 : O2 = Wl.passJ O1.bay O1.jn O1.jn.ep := hO2.out
          have RN := wreclaim_any H9.out FB.out.1 (by rw [FB.out.2.1]; exact ⟨by decide, by decide⟩) (FB.out.2.2.1.mono (by decide))
          rw [← e2] at RN
          replace RN := Lib.hid RN
          clear e2 FB H9
          go_wp2_with (go_at_call 33; refine RN.out.mono ?_; rintro e wa ⟨rfl, Fa, Ha⟩)
          go_meet
          exact ⟨by first | rfl | rw [e0], ⟨_, _, Ha.out⟩⟩
      case rest =>
      obtain ⟨rfl, HX⟩ := hcut
      obtain ⟨cv2, F2, H2⟩ := HX.out
      have FG := Lib.hid FB.out.2.2.2.2
      obtain ⟨base, hbase⟩ : ∃ base, base = O2.jn.next := ⟨_, rfl⟩
      rw [← hbase] at FG
      have NX : Hid (Calls Tryz.prog 43 #[.pointer (some ⟨W, 0, none⟩)] wc (Still wc (.int .u64 (base : Int)))) := by rw [hbase]; exact wnext_any (H2.get 2 rfl)
      have RMF : Hid (∀ m, RLif w4 b W D R O2.jn O2.bay wc.heap.size 0 [] (.slice none 0 0) ((wc.drewN m).alloc (.cells #[.slice none 0 0, .int .i64 0, .slice none 0 0] 81))) := fun m => RLif.make (H2.quiet ((Chg.refl [] _).drewN m))
      obtain ⟨bI, hbI⟩ : ∃ bI : Int, bI = (base : Int) := ⟨_, rfl⟩
      rw [← hbI] at NX
      replace hbI := Lib.hid hbI
      clear FB HX H9 hbase H2 hO2
      go_wp2_with (go_at_call 43; refine NX.out.mono ?_; rintro e wn ⟨rfl, qn, rfl⟩; clear NX)
      obtain ⟨x, hx⟩ : ∃ x, x = wc.heap.size := ⟨_, rfl⟩
      have RM := RMF.out qn
      rw [← hx] at RM
      obtain ⟨w8, hw8⟩ : ∃ w8, w8 = (wc.drewN qn).alloc (.cells #[.slice none 0 0, .int .i64 0, .slice none 0 0] 81) := ⟨_, rfl⟩
      rw [← hw8] at RM
      rw [← hw8, ← hx]
      have H1 : Hid (∃ y J L G, ∃ sr : Nat, ∃ vals lv, FgSt w fs n 0 y J L G sr vals lv base ∧ RLif w4 b W D R J y x sr vals lv w8) := ⟨_, _, _, _, _, _, _, FG.out, RM⟩
      clear RMF RM hx hw8 FG
      go_loopw [17] (fun i wr => ∃ m : Nat, m ≤ M ∧ i = .int .i64 m ∧ Hid (∃ y J L G, ∃ sr : Nat, ∃ vals lv, FgSt w fs n m y J L G sr vals lv base ∧ RLif w4 b W D R J y x sr vals lv wr)) (fun i _ => M - (intOf i).toNat)
      case atStart => exact ⟨0, Nat.zero_le _, rfl, H1⟩
      case round =>
        obtain ⟨m, hm, rfl, Hm⟩ := hrel
        clear H1
        have hm0 : (0 : Int) ≤ m := Int.natCast_nonneg _
        obtain ⟨y, J, L, G, sr, vals, lv, ST, T0⟩ := Hm.out
        replace ST := Lib.hid ST
        replace T0 := Lib.hid T0
        clear Hm
        have FIT := Lib.hid (ST.out.fit (by have := HMW.out; omega))
        have LOW := Lib.hid ((ST.out.lows HW2.out).mono (show 40000 ≤ 999990000 by decide))
        have I0 : Hid (I64 J.slot) := by rw [ST.out.slot]; exact ⟨by decide, by decide⟩
        by_cases hlt : m < M
        · have hm1 : (m : Int) < M := by omega
          obtain ⟨a, ha⟩ : ∃ a, fs[m]? = some a := ⟨_, List.getElem?_eq_getElem (by have := HM.out; omega)⟩
          obtain ⟨bl, o, rfl, hbl, RI⟩ := (HVM.out _ (CW.out.trans T0.out.chg)).at ha
          have RIF : Hid (∀ w', Chg [] w w' → WOpIn w' bl (o + m * 4) a) := fun w' c => by
            obtain ⟨bl2, o2, e2, _, r⟩ := (HVM.out _ c).at ha
            obtain ⟨rfl, rfl⟩ : bl = bl2 ∧ o = o2 := by simpa using e2
            exact r
          obtain ⟨x2, y2, e2⟩ := RI.s2.slice
          obtain ⟨x3, y3, e3⟩ := RI.s3.slice
          rw [List.length_map] at e3
          have HPB : ∀ p ∈ a.pts, By p.d ∧ Cap p.v := fun p hp => ⟨(RI.y2 p hp).1, (RI.y2 p hp).2⟩
          have hp0 : Pts w a.ptsV a.pts := (RIF.out w (Chg.refl _ _)).s2
          have CC := rlif_call a T0.out FIT.out.1 I0.out LOW.out RI.s2 HPB ⟨_, _, _, e3⟩
          have S3 : Hid (a.kind < 4 → _) := fun hk4 => ST.out.call (by have := HMW.out; omega) ha (fun p hp => (HPB p hp).1) hp0 hk4
          have S9 := Lib.hid (ST.out.idle ha)
          rw [e2] at S3
          rw [e2, e3] at CC
          replace CC := Lib.hid CC
          obtain ⟨OUT, hOUT⟩ : ∃ OUT, OUT = Wl.callJ y J a := ⟨_, rfl⟩
          rw [← hOUT] at CC S3
          have hvl : vals.length ≤ 100000 := by rw [ST.out.len]; have := FIT.out.2.1; omega
          have DDF : Hid (∀ w', RLif w4 b W D R OUT.jn OUT.bay x sr vals lv w' → Calls Tryz.prog 39 #[.pointer (some ⟨x, 0, none⟩), .agg #[.int .i64 a.kind, .int .i64 a.num, .slice x2 a.pts.length y2, .slice x3 a.keep.length y3]] w' fun e w'' => e = .returned (.tuple #[]) ∧ Hid (RLif w4 b W D R OUT.jn OUT.bay x (lifeS a.kind sr vals) (lifeV a.kind lv vals) (lifeL a.kind lv (.slice x2 a.pts.length y2)) w'')) := fun w' h => rlif_does h hvl ST.out.sl _ _ _ _ _ _ _ _
          have CELLS : Hid (∀ w', Chg [] w w' → w'.cell? ⟨bl, o + m * 4, none⟩ = some (.int .i64 a.kind) ∧ w'.cell? ⟨bl, o + m * 4 + 1, none⟩ = some (.int .i64 a.num) ∧ w'.cell? ⟨bl, o + m * 4 + 2, none⟩ = some (.slice x2 a.pts.length y2) ∧ w'.cell? ⟨bl, o + m * 4 + 3, none⟩ = some (.slice x3 a.keep.length y3)) := fun w' c => by
            have r := RIF.out w' c
            exact ⟨r.c0, r.c1, by rw [← e2]; exact r.c2, by rw [← e3]; exact r.c3⟩
          obtain ⟨c0, c1, c2, c3⟩ := CELLS.out _ (CW.out.trans T0.out.chg)
          have MEAS : Hid (M - (intOf (.int .i64 ((m : Int) + 1))).toNat < M - (intOf (.int .i64 (m : Int))).toNat) := meas_next hlt
          obtain ⟨wa, wb⟩ := sc_wrap (z := (m : Int) + 1) (by omega) (by have := HMW.out; omega)
          clear RI RIF e2 e3 hOUT hbl HPB hp0 HVM HM FIT LOW I0 ST hvl
          by_cases hk4 : a.kind < 4
          case neg =>
            clear CC S3 DDF
            go_wp2_with fail
            exact ⟨⟨m + 1, hlt, by first | rfl | (rw [Int.natCast_add]; rfl) | go_num, ⟨_, _, _, _, _, _, _, S9.out, T0.out⟩⟩, MEAS.out⟩
          case pos =>
          have S5 := Lib.hid (S3.out hk4)
          clear S3 S9 T0
          by_cases he : OUT.err = 0
          · have S4 := Lib.hid (S5.out.2 he)
            go_wp2_with (first
              | (go_at_call 38; refine CC.out.mono ?_; rintro e w9 ⟨rfl, T9⟩; clear CC c0 c1 c2 c3; obtain ⟨c0, c1, c2, c3⟩ := CELLS.out _ (CW.out.trans T9.out.chg); have DD := Lib.hid (DDF.out _ T9.out))
              | (go_at_call 39; refine DD.out.mono ?_; rintro e w10 ⟨rfl, T10⟩; clear DD c0 c1 c2 c3))
            obtain ⟨L', G', sr', S6, hsr⟩ := S4.out
            have T11 := T10.out
            rw [← hsr] at T11
            exact ⟨⟨m + 1, hlt, by first | rfl | (rw [Int.natCast_add]; rfl) | go_num, ⟨_, _, L', G', sr', _, _, S6, T11⟩⟩, MEAS.out⟩
          · have S4 := Lib.hid (S5.out.1 he)
            have hne : (OUT.err == 0) = false := by simpa using he
            go_wp2_with (first
              | (go_at_call 38; refine CC.out.mono ?_; rintro e w9 ⟨rfl, T9⟩; clear CC c0 c1 c2 c3))
            exact ⟨⟨m + 1, hlt, by first | rfl | (rw [Int.natCast_add]; rfl) | go_num, ⟨_, _, _, _, _, _, _, S4.out, T9.out⟩⟩, MEAS.out⟩
        · have hm1 : ¬ (m : Int) < M := by omega
          have LCUT : Hid ((y.cut [bs]).Low 999990000) := wl_low_cut LOW.out (two_calm ST.out.calm) [bs]
          have FGO : Hid (∀ (ts : List Thing) (e : Ending) (w' : World), Opnd w4 b (y.cut [bs]) 0 (n : Int) ts e w' → ∃ d J' Lf, Again w4 b (y.cut [bs]) 0 d J' Lf ts e w' ∧ Lf = L.take Lf.length ∧ sr ≤ Lf.length ∧ Lf.length ≤ L.length ∧ J'.next = base + Lf.length ∧ J'.next ≤ 11000 ∧ ∀ l ∈ L, Sc.Good l) := fun ts e w' hO => ST.out.open (by have := HMW.out; omega) bs hO
          obtain ⟨cv, F9, so, sc, H9⟩ := T0.out
          obtain ⟨wA, hwA⟩ : ∃ wA, wA = wr.alloc (.cells #[.slice ko bs.length kc] 59) := ⟨_, rfl⟩
          have BX : Blk wA wr.heap.size 59 [.slice ko bs.length kc] := by rw [hwA]; exact Blk.made wr [.slice ko bs.length kc] 59
          have HA : Side w4 wA (jts b W D R J cv y F9 (lifeT x (.slice so vals.length sc) sr lv :: ownT 58 (.slice so vals.length sc) vals :: [])) := by rw [hwA]; exact H9.quiet ((Chg.refl [] _).alloc _)
          have KB : BRs wA (.slice (some ⟨wr.heap.size, 0, none⟩) 1 1) [⟨.slice ko bs.length kc, bs⟩] := by
            refine .inr ⟨_, 0, 1, rfl, BX.lt, (show 1 ≤ 140737488355328 by decide), fun i d hd => ?_⟩
            have hi : i < 1 := (List.getElem?_eq_some_iff.1 hd).1
            obtain rfl : i = 0 := by omega
            obtain rfl : _ = d := Option.some.inj hd
            exact ⟨BX.cell (j := 0) rfl, HK.out.chgNil (CW.out.trans HA.chg), hkl.out⟩
          have CUT := bcut_any b F9 y wA (HA.get 0 rfl) _ _ KB (fun _ k hk => by
              obtain rfl : wr.heap.size = k := Option.some.inj hk
              refine ⟨fun hm => ?_, BX.lt⟩
              have := (H9.get 0 rfl : BayIn _ _ _ _).lt _ hm
              omega) (fun d hd hn k hk => by
              obtain rfl : d = ⟨.slice ko bs.length kc, bs⟩ := by simpa using hd
              have h1 := RdV.old (HK.out.chgNil CW.out) (by simpa using hn) k hk
              have h2 := HA.chg.size
              exact ⟨fun hm => by have := HA.new _ (List.mem_of_getElem? (i := 0) rfl) k hm; omega, by omega⟩)
          rw [show ([⟨.slice ko bs.length kc, bs⟩] : List BoolD).map (·.bs) = [bs] from rfl, hwA] at CUT
          replace CUT := Lib.hid CUT
          replace HA := Lib.hid HA
          replace hwA := Lib.hid hwA
          clear BX KB H9 T0 HVM HM LOW I0
          go_wp2_with fail
          refine CUT.out.mono ?_
          rintro e wd ⟨rfl, T⟩
          rw [← hwA.out] at T
          obtain ⟨Fc, Hc⟩ := HA.out.act 0 rfl T.out
          have Hc : Side w4 wd (BayT b (y.cut [bs]) Fc :: devT D b J.slot J.br :: walT W D R J cv :: ringT R J.S J.t J.u :: comT cv J.commit :: lifeT x (.slice so vals.length sc) sr lv :: ownT 58 (.slice so vals.length sc) vals :: []) := Hc
          have OP := Lib.hid (wopen_any Hc 0 (n : Int) ⟨by decide, by decide⟩ ⟨by omega, by omega⟩ LCUT.out)
          clear CUT HA T LCUT Hc hwA
          go_wp2_with fail
          refine OP.out.mono ?_
          intro e wo hO
          obtain ⟨d, J', Lf, ⟨W', D', R', tv, T, F', y', hf, -, rfl, H6⟩, hpre, hsr, hle, hnx, hsm, hgood⟩ := FGO.out _ _ _ hO
          clear OP FGO hO
          have hLT : Lf.length = T.length := by rw [← hf, found_len]
          obtain ⟨Q, hQ⟩ : ∃ Q, Q = T.length := ⟨_, rfl⟩
          rw [hLT, ← hQ] at hsr hle hnx hpre
          have esq : J'.next - Lf.length = base := by rw [hLT, ← hQ]; omega
          rw [esq] at H6
          obtain ⟨lo, lc, htv⟩ : ∃ lo lc, tv = .slice lo Q lc := by
            have ow : OwnW 2 wo 0 92 tv (txSlots base T) := H6.out.get 5 rfl
            obtain ⟨lo, lc, h⟩ := ow.rd.slice
            rw [txSlots_len, ← hQ] at h
            exact ⟨lo, lc, h⟩
          subst htv
          have HQ : Hid (∀ m, Side w4 (wo.drewN m) _) := fun m => H6.out.quiet ((Chg.refl [] wo).drewN m)
          have NV : Hid (∀ m, Calls Tryz.prog 43 #[.pointer (some ⟨W', 0, none⟩)] (wo.drewN m) (Still (wo.drewN m) (.int .u64 (bI + (Q : Int))))) := fun m => by
            have hw := (HQ.out m).get 2 rfl
            have m2 := wnext_any (J := Wl.begun 0 J'.S ⟨J'.ep, base, (J'.t : Nat)⟩ J'.u J'.next) hw
            have e9 : ((J'.next : Nat) : Int) = bI + (Q : Int) := by rw [hbI.out, hnx]; omega
            rw [← e9]
            exact m2
          have hML : vals.length = L.length := ST.out.len
          have ARE : ∀ m, Calls Tryz.prog 45 #[.slice lo Q lc, .slice so vals.length sc, .int .i64 (sr : Int)] (wo.drewN m) fun e w' => e = .returned (.bool true) ∧ ∃ q, w' = (wo.drewN m).drewN q := fun m => by
            refine are_gen (wo.drewN m) lo so lc sc Q vals.length base (sr : Int) (by have := FIT.out.2.1; omega) (by omega) (by omega) (by omega) (fun k hk => ?_)
            obtain ⟨t, ht⟩ : ∃ t, T[k]? = some t := ⟨_, List.getElem?_eq_getElem (by omega)⟩
            have Hm := HQ.out m
            have h2 := Hm.sub (.cons _ (.cons _ (.cons _ (.cons _ (.cons _ (List.Sublist.refl _))))))
            obtain ⟨g, c, ao, c2, e1, e2, c0, c1⟩ := found_at h2 ht
            have e1 : lo = some ⟨g, 0, none⟩ := (Value.slice.inj e1).1
            have pw : PoolW 3 (wo.drewN m) 105 (listsOf T) := h2.get 1 rfl
            have pd : Pool (wo.drewN m) (dataOf T) := h2.get 2 rfl
            have ow := pw.row (t.1, t.2.map pvSlot) (List.mem_of_getElem? (i := k) (by unfold listsOf; rw [List.getElem?_map, ht]; rfl))
            have Rw : ∀ p ∈ t.2, OwnR (wo.drewN m) 0 p.2 (ub p.1.bs).length (ub p.1.bs) := fun p hp => pd.row (pvRow p) (List.mem_flatMap.2 ⟨t, List.mem_of_getElem? ht, List.mem_map_of_mem hp⟩)
            have eF : Lf[k]? = some (dOf t.2) := by rw [← hf]; unfold found; rw [List.getElem?_map, ht]; rfl
            have eL : L[k]? = some (dOf t.2) := by
              rw [hpre, List.getElem?_take, if_pos hk] at eF
              exact eF
            have hg := hgood _ (List.mem_of_getElem? eL)
            have hl : t.2.length ≤ 1023 := by have := hg.2.1; unfold dOf at this; rw [List.length_map] at this; exact this
            have P := pts_of2 ow Rw (by omega) (fun p hp => by rw [(hg.2.2 p.1 (List.mem_map_of_mem hp)).2.2.1]; decide)
            obtain ⟨u, hu⟩ : ∃ u, vals[k]? = some u := ⟨_, List.getElem?_eq_getElem (by omega)⟩
            obtain ⟨qs, Q1, Q2, Q3⟩ := (ST.out.rel k u _ hu eL).chg (CW.out.trans Hm.chg)
            obtain ⟨al, alike⟩ := pts_alike Q2 Q3 rfl
            obtain ⟨yo, yc, rfl⟩ := Q1.slice
            have h0 : (wo.drewN m).ownsRow 0 58 1 (.slice so vals.length sc) vals.length vals := Hm.get 13 rfl
            rcases h0.2 with ⟨_, hz⟩ | ⟨g2, cap, cur, ev, _, _, _⟩
            · omega
            · have eso : so = some ⟨g2, 0, none⟩ := (Value.slice.inj ev).1
              subst eso
              have c3 := h0.cells (g := g2) rfl k _ hu
              rw [Addr.add_lit, Nat.zero_add] at c3
              have elen : (t.2.map toPt).length = t.2.length := List.length_map _
              refine ⟨g, ao, c2, g2, yo, yc, t.2.map toPt, qs, e1, rfl, c0, ?_, ?_, ?_, ?_, by rw [elen]; exact al, alike⟩
              · rw [elen, ← e2]; exact c1
              · rw [elen, al]; exact c3
              · rw [elen, ← e2]; exact P
              · rw [elen, al]; exact Q1
          have MAY := Lib.hid (may_any wo x so lo sc lc vals.length Q (sr : Int) lv (H6.out.get 12 rfl) ARE)
          have CE : Hid (∀ m, Chg [] w (wo.drewN m)) := fun m => (CW.out.trans H6.out.chg).drewN m
          have q0 : (0 : Int) ≤ Q := Int.natCast_nonneg _
          have bq : 0 ≤ bI ∧ bI + (Q : Int) ≤ 11000 := by have := hbI.out; omega
          have uw : IntKind.u64.wrap (Q : Int) = (Q : Int) := by rw [IntKind.wrap_u64]; omega
          have ux : IntKind.u64.wrap (bI + (Q : Int)) = bI + (Q : Int) := by rw [IntKind.wrap_u64]; omega
          by_cases hz : Q = 0
          · subst hz
            clear HQ H6 ARE hQ hLT hf hsr hle hnx hpre hsm hgood esq ST FIT HK hkl hML hbig
            go_wp2_with (first
              | (go_at_call 41; refine MAY.out.mono ?_; rintro e wm ⟨rfl, qm, rfl⟩)
              | (go_at_call 43; refine (NV.out _).mono ?_; rintro e wm2 ⟨rfl, qm2, rfl⟩))
            go_ret
            exact ⟨rfl, CE.out _⟩
          · have hz1 : ¬ (Q : Int) = 0 := by omega
            have hz2 : (0 : Int) < (Q : Int) := by omega
            have hz3 : ((Q : Int) == 0) = false := by simpa using hz1
            obtain ⟨g, rfl, cg⟩ : ∃ g, lo = some ⟨g, 0, none⟩ ∧ wo.cell? ⟨g, 0, none⟩ = some (.int .u64 bI) := by
              obtain ⟨t, ht⟩ : ∃ t, T[0]? = some t := ⟨_, List.getElem?_eq_getElem (by omega)⟩
              have h2 := H6.out.sub (.cons _ (.cons _ (.cons _ (.cons _ (.cons _ (List.Sublist.refl _))))))
              obtain ⟨g, c, ao, c2, e1, e2, c0, c1⟩ := found_at h2 ht
              have c0 : wo.cell? ⟨g, 0, none⟩ = some (.int .u64 ((base : Int) + 0)) := by simpa using c0
              rw [Int.add_zero, ← hbI.out] at c0
              exact ⟨g, (Value.slice.inj e1).1, c0⟩
            clear HQ H6 ARE hQ hLT hf hsr hle hnx hpre hsm hgood esq ST FIT HK hkl hML hbig
            go_wp2_with (first
              | (go_at_call 41; refine MAY.out.mono ?_; rintro e wm ⟨rfl, qm, rfl⟩)
              | (go_at_call 43; refine (NV.out _).mono ?_; rintro e wm2 ⟨rfl, qm2, rfl⟩))
            go_ret
            exact ⟨rfl, CE.out _⟩

end Go.Proofs.YtkafkdlgflkjgaaGreat
