/-
  How WalKeeps stands behind so many ops. By an AI agent.
-/
import Derived.Test.YtkafkdlgflkjgaaGreatBWlLawC
import Derived.Test.YtkafkdlgflkjgaaGreatBWlLawU
namespace Go.Proofs.YtkafkdlgflkjgaaGreat
open Go.RowKit Go.Maps Crc

/-- A batch that the law keeps: of the script, or found at the last cut. -/
def KRel (w : World) (T : List Tx) (u : Value) (l : List Pd) : Prop := PRel w u l ∨ ∃ t ∈ T, u = t.1 ∧ l = dOf t.2

structure KpSt (w : World) (es : List WOpD) (T : List Tx) (b0 : Bay) (n m : Nat) (y : Bay) (J : Wl.Jn) (L : List (List Pd)) (G : Option (List Pd)) (sr : Nat) (k : Int) (vals : List Value) (lv : Value) : Prop where
 st : (k = 0 ∧ Wl.Live y J (6000 + m) L G sr) ∨ (1 ≤ k ∧ k ≤ 5 ∧ Wl.Dead y J (6000 + m) L sr k)
 slot : J.slot = 0
 size : J.S = n
 calm : Calm b0 y
 low : y.Low (21000 + 3 * wopW es m + 10000 * m)
 len : vals.length = L.length
 less : L.length + 1 ≤ 6000 + m
 rel : ∀ (i : Nat) (u : Value) (l : List Pd), vals[i]? = some u → L[i]? = some l → KRel w T u l
 log : ∀ l, G = some l → KRel w T lv l
 sl : ∃ o n c, lv = .slice o n c

theorem tripped_low {y : Bay} {K : Nat} (h : y.Low K) (z : Int) : (y.tripped z).Low K := by
 unfold Bay.tripped
 split
 ·exact ⟨h.caches, h.reads, h.writes, h.flushes⟩
 ·exact h

section
variable {w : World} {es : List WOpD} {T : List Tx} {b0 y : Bay} {n m : Nat} {J : Wl.Jn} {L : List (List Pd)} {G : Option (List Pd)} {sr : Nat} {k : Int} {vals : List Value} {lv : Value} {a : WOpD}

theorem Wl.Live.upto {B C : Nat} (h : Wl.Live y J B L G sr) (hc : B ≤ C) : Wl.Live y J C L G sr := by
 obtain ⟨y0, t, d, e, ok, q⟩ := h.st
 exact ⟨⟨y0, t, d, e, ok.upto hc, q⟩⟩

theorem Wl.Dead.upto {B C : Nat} (h : Wl.Dead y J B L sr k) (hc : B ≤ C) : Wl.Dead y J C L sr k := ⟨h.st, h.lo, h.hi, Nat.le_trans h.next hc, Nat.le_trans h.ep hc⟩

/-- Nothing is done. -/
theorem KpSt.idle (h : KpSt w es T b0 n m y J L G sr k vals lv) (ha : es[m]? = some a) : KpSt w es T b0 n (m + 1) y J L G sr k vals lv := by
 refine ⟨?_, h.slot, h.size, h.calm, h.low.mono (by rw [wopW_succ ha]; omega), h.len, by have := h.less; omega, h.rel, h.log, h.sl⟩
 rcases h.st with ⟨q1, q2⟩ | ⟨q1, q2, q3⟩
 ·exact .inl ⟨q1, q2.upto (by omega)⟩
 ·exact .inr ⟨q1, q2, q3.upto (by omega)⟩

/-- The power is to go. -/
theorem KpSt.trip (h : KpSt w es T b0 n m y J L G sr k vals lv) (z : Int) : KpSt w es T b0 n m (y.tripped z) J L G sr k vals lv := by
 have hc : Calm y (y.tripped z) := by
  unfold Bay.tripped
  split <;> rfl
 refine ⟨?_, h.slot, h.size, h.calm.trans hc, tripped_low h.low z, h.len, h.less, h.rel, h.log, h.sl⟩
 rcases h.st with ⟨q1, q2⟩ | ⟨q1, q2, q3⟩
 ·exact .inl ⟨q1, q2.trip z⟩
 ·exact .inr ⟨q1, q2, by rw [q3.trip z]; exact q3⟩

/-- A call. -/
theorem KpSt.call (h : KpSt w es T b0 n m y J L G sr 0 vals lv) (hm : m ≤ 5000) (ha : es[m]? = some a) (hb : ∀ p ∈ a.pts, By p.d) (hp : Pts w a.ptsV a.pts) :
 ((Wl.callJ y J a).err = 50 ∧ 1 ≤ a.kind ∧ a.kind ≤ 5 ∧ KpSt w es T b0 n (m + 1) (Wl.callJ y J a).bay (Wl.callJ y J a).jn L none sr a.kind vals lv) ∨
 ((Wl.callJ y J a).err ≠ 50 ∧ (Wl.callJ y J a).err ≠ 0 ∧ KpSt w es T b0 n (m + 1) (Wl.callJ y J a).bay (Wl.callJ y J a).jn L G sr 0 vals lv) ∨
 ((Wl.callJ y J a).err = 0 ∧ ∃ L' G' sr', KpSt w es T b0 n (m + 1) (Wl.callJ y J a).bay (Wl.callJ y J a).jn L' G' sr' 0 (lifeV a.kind lv vals) (lifeL a.kind lv a.ptsV) ∧ (sr' : Int) = lifeS a.kind sr vals) := by
 have hs : Wl.Live y J (6000 + m) L G sr := by
  rcases h.st with ⟨_, q⟩ | ⟨q, _⟩
  ·exact q
  ·omega
 have hc := h.calm.trans (Calm.call y J a)
 have lo : (Wl.callJ y J a).bay.Low (21000 + 3 * wopW es (m + 1) + 10000 * (m + 1)) := (Wl.fcallJ_low h.low).mono (by rw [wopW_succ ha]; omega)
 have hls := h.less
 rcases hs.call (a := a) (by omega) hb with ⟨q1, q2, q3, q4⟩ | ⟨q1, q2, hsl, hsz, q3, q4⟩
 ·left
  have hj : (Wl.callJ y J a).jn.slot = J.slot ∧ (Wl.callJ y J a).jn.S = J.S := by
   obtain ⟨y0, t, d, rfl, ok, _⟩ := hs.st
   rcases ok.timed hb t with ⟨yd, d', q, _⟩ | ⟨t', q⟩
   ·rw [q]; exact ⟨rfl, rfl⟩
   ·have := ok.not_dark hb
    rw [q] at q1
    exact absurd q1 this
  exact ⟨q1, q3, q4, .inr ⟨q3, q4, q2⟩, hj.1.trans h.slot, hj.2.trans h.size, hc, lo, h.len, by omega, h.rel, (fun l hl => by cases hl), h.sl⟩
 ·right
  by_cases he : (Wl.callJ y J a).err = 0
  case neg =>
   left
   have ea : Wl.after a (Wl.callJ y J a).err L G = (L, G) := by unfold Wl.after; rw [if_pos he]
   rw [ea, if_neg (fun q => he q.1), if_neg (fun q => he q.1)] at q2
   exact ⟨q1, he, .inl ⟨rfl, q2⟩, hsl.trans h.slot, hsz.trans h.size, hc, lo, h.len, by omega, h.rel, h.log, h.sl⟩
  right
  refine ⟨he, ?_⟩
  by_cases k1 : a.kind = 1
  ·have ea : Wl.after a (Wl.callJ y J a).err L G = (L, some (a.pts.map pdOf)) := by unfold Wl.after; rw [if_neg (fun q => q he), if_pos k1]
   rw [ea, if_pos ⟨he, .inl k1⟩] at q2
   have e0 := q4 he k1
   have hv : lifeV a.kind lv vals = vals := by unfold lifeV; rw [if_neg (by omega), if_neg (by omega)]
   have hl : lifeL a.kind lv a.ptsV = a.ptsV := by unfold lifeL; rw [if_pos k1]
   have hS : lifeS a.kind sr vals = (vals.length : Int) := by unfold lifeS; rw [if_pos (.inl k1)]
   rw [hv, hl, hS]
   obtain ⟨o, c, q⟩ := hp.slice
   exact ⟨L, some (a.pts.map pdOf), L.length, ⟨.inl ⟨rfl, q2⟩, hsl.trans h.slot, hsz.trans h.size, hc, lo, h.len, by omega, h.rel, fun l hl => by
    obtain rfl := Option.some.inj hl
    exact .inl ⟨a.pts, hp, rfl, (scErr_zero e0 hb).2.2⟩, ⟨o, _, c, q⟩⟩, by rw [h.len]⟩
  by_cases k2 : a.kind = 2
  ·have ea : Wl.after a (Wl.callJ y J a).err L G = (L ++ G.toList, none) := by unfold Wl.after; rw [if_neg (fun q => q he), if_neg k1, if_pos k2]
   rw [ea, if_neg (by omega), if_neg (by omega)] at q2
   obtain ⟨l, hG⟩ := q3 he k2
   subst hG
   have hv : lifeV a.kind lv vals = vals ++ [lv] := by unfold lifeV; rw [if_pos k2]
   have hl : lifeL a.kind lv a.ptsV = .slice none 0 0 := by unfold lifeL; rw [if_neg k1, if_pos (.inl k2)]
   have hS : lifeS a.kind sr vals = (sr : Int) := by unfold lifeS; rw [if_neg (by omega), if_neg (by omega)]
   rw [hv, hl, hS]
   refine ⟨L ++ [l], none, sr, ⟨.inl ⟨rfl, q2⟩, hsl.trans h.slot, hsz.trans h.size, hc, lo, by rw [List.length_append, List.length_append, h.len]; rfl, by rw [List.length_append, List.length_singleton]; omega, fun i u l' hu hl' => ?_, (fun l hl => by cases hl), ⟨_, _, _, rfl⟩⟩, rfl⟩
   by_cases hi : i < vals.length
   ·rw [List.getElem?_append_left hi] at hu
    rw [List.getElem?_append_left (by rw [← h.len]; exact hi)] at hl'
    exact h.rel i u l' hu hl'
   ·rw [List.getElem?_append_right (by omega)] at hu
    rw [List.getElem?_append_right (by rw [← h.len]; omega), ← h.len] at hl'
    obtain ⟨m', hm'⟩ : ∃ m', m' = i - vals.length := ⟨_, rfl⟩
    rw [← hm'] at hu hl'
    cases m' with
    | zero =>
      obtain rfl : lv = u := by simpa using hu
      obtain rfl : l = l' := by simpa using hl'
      exact h.log l rfl
    | succ m' => simp at hu
  by_cases k45 : a.kind = 4 ∨ a.kind = 5
  ·have ea : Wl.after a (Wl.callJ y J a).err L G = ([], none) := by unfold Wl.after; rw [if_neg (fun q => q he), if_neg k1, if_neg k2, if_pos k45]
   rw [ea, if_neg (by omega), if_pos ⟨he, k45⟩] at q2
   have hv : lifeV a.kind lv vals = [] := by unfold lifeV; rw [if_neg k2, if_pos k45]
   have hl : lifeL a.kind lv a.ptsV = .slice none 0 0 := by unfold lifeL; rw [if_neg k1, if_pos (.inr k45)]
   have hS : lifeS a.kind sr vals = 0 := by unfold lifeS; rw [if_neg (by omega), if_pos k45]
   rw [hv, hl, hS]
   exact ⟨[], none, 0, ⟨.inl ⟨rfl, q2⟩, hsl.trans h.slot, hsz.trans h.size, hc, lo, rfl, by show 0 + 1 ≤ _; omega, fun i u l hu _ => by simp at hu, (fun l hl => by cases hl), ⟨_, _, _, rfl⟩⟩, rfl⟩
  ·have ea : Wl.after a (Wl.callJ y J a).err L G = (L, G) := by unfold Wl.after; rw [if_neg (fun q => q he), if_neg k1, if_neg k2, if_neg k45]
   rw [ea] at q2
   have hv : lifeV a.kind lv vals = vals := by unfold lifeV; rw [if_neg k2, if_neg k45]
   have hl : lifeL a.kind lv a.ptsV = lv := by unfold lifeL; rw [if_neg k1, if_neg (by omega)]
   rw [hv, hl]
   refine ⟨L, G, _, ⟨.inl ⟨rfl, q2⟩, hsl.trans h.slot, hsz.trans h.size, hc, lo, h.len, by omega, h.rel, h.log, h.sl⟩, ?_⟩
   unfold lifeS
   by_cases k3 : a.kind = 3
   ·rw [if_pos ⟨he, .inr k3⟩, if_pos (.inr k3), h.len]
   ·rw [if_neg (by omega), if_neg (by omega), if_neg (by omega), if_neg (by omega)]

/-- Cut off, and opened, as often as one likes. -/
theorem KpSt.cut (h : KpSt w es T b0 n m y J L G sr k vals lv) (hm : m ≤ 5000) (hn0 : NoCome b0 0) (keep : List Bool) :
 ∃ d Jf Lf, (y.cut [keep]).Up 0 d ∧ d.cache = [] ∧
   (∀ (y' : Bay), y'.Up 0 d → ∀ {w0 w' : World} {b : Nat} {ts : List Thing} {e : Ending}, Opnd w0 b y' 0 (n : Int) ts e w' → Again w0 b y' 0 d Jf Lf ts e w') ∧
   (∀ (y' : Bay), y'.Up 0 d → Wl.Live y' (Wl.begun 0 Jf.S ⟨Jf.ep, Jf.next - Lf.length, (Jf.t : Nat)⟩ Jf.u Jf.next) (6000 + (m + 1)) Lf none Lf.length) ∧
   ((Lf = L.take Lf.length ∧ sr ≤ Lf.length ∧ Lf.length ≤ L.length) ∨ ((k = 4 ∨ k = 5) ∧ Lf = [])) ∧ Jf.S = n ∧ Lf.length + 1 ≤ Jf.next ∧ Jf.next ≤ 6000 + m ∧ ∀ l ∈ Lf, Sc.Good l := by
 have hc : NoCome y 0 := h.calm.none hn0
 have key : ∃ (gone : Prop) (d : Dk) (Jf : Wl.Jn) (Lf : List (List Pd)) (Gf : Option (List Pd)), (y.cut [keep]).Up 0 d ∧ d.cache = [] ∧ 2 + J.S ≤ d.last.length ∧ Wl.Left d J L sr gone Jf Lf Gf ∧ (gone → k = 4 ∨ k = 5) ∧ 5 ≤ J.S ∧ J.S ≤ 2048 ∧ J.next ≤ 6000 + m ∧ J.ep ≤ 6000 + m := by
  rcases h.st with ⟨q1, q2⟩ | ⟨q1, q2, q3⟩
  ·obtain ⟨d, Jf, Lf, Gf, a1, a2, a3, a4⟩ := q2.cut (by omega) h.slot hc keep
   obtain ⟨_, _, _, _, ok, _⟩ := q2.st
   exact ⟨_, d, Jf, Lf, Gf, a1, a2, a3, a4, fun f => f.elim, ok.lo, ok.hi, ok.next, ok.ep⟩
  ·obtain ⟨d, Jf, Lf, Gf, a1, a2, a3, a4⟩ := q3.cut h.slot hc keep
   exact ⟨_, d, Jf, Lf, Gf, a1, a2, a3, a4, id, q3.lo, q3.hi, q3.next, q3.ep⟩
 obtain ⟨gone, d, Jf, Lf, Gf, a1, a2, a3, x, a5, a6, a7, a8, a9⟩ := key
 have e0 := x.size
 have e1 := h.size
 have e2 := x.next
 refine ⟨d, Jf, Lf, a1, a2, fun y' hu w0 w' b ts e hO => ?_, fun y' hu => x.live hu a2 a3 a6 a7 a8 a9, ?_, by omega, x.keeps.nx, by omega, x.good⟩
 ·rw [← e1, ← e0] at hO
  exact opnd_keeps hO hu x.keeps (by omega) (by omega) x.tail (by omega) x.used x.nums
 ·rcases x.part with q | ⟨q1, q2⟩
  ·exact .inl q
  ·exact .inr ⟨a5 q1, q2⟩

end

theorem went_low {y y' : Bay} {s : Int} {d : Dk} {nr K : Nat} (h : y.Low K) (q : y.Went y' s d nr 0 0) (hc : d.cache = []) : y'.Low (K + nr) := by
 have h1 := h.reads
 have h2 := h.writes
 have h3 := h.flushes
 refine ⟨fun r e he => ?_, by rw [q.reads]; omega, by rw [q.writes]; omega, by rw [q.flushes]; omega⟩
 by_cases hr : r = s
 ·subst hr
  rw [q.up.dev] at he
  obtain rfl := Option.some.inj he
  rw [hc]
  exact Nat.zero_le _
 ·rw [q.other r hr] at he
  have := h.caches r e he
  omega

/-- A bay of one slot into which nothing is to come. -/
theorem one_calm {y : Bay} (hl : y.slots.length = 1) (hc : NoCome y 0) : Calm (Bay.new [2050]) y := by
 obtain ⟨ss, _, _, _, _, _⟩ := y
 obtain ⟨x, rfl⟩ := List.length_eq_one_iff.1 hl
 have hx : x.coming = none := hc
 show [x.coming] = [none]
 rw [hx]

theorem calm_len {y y' : Bay} (h : Calm y y') : y'.slots.length = y.slots.length := by
 have := congrArg List.length h
 simpa using this

/-- Behind a cut, and so many reads. -/
theorem KpSt.again {w : World} {es : List WOpD} {T T' : List Tx} {y y' : Bay} {n m nr : Nat} {J Jf : Wl.Jn} {L Lf : List (List Pd)} {G : Option (List Pd)} {sr : Nat} {k : Int} {vals : List Value} {lv : Value} {a : WOpD} {d : Dk} {keep : List Bool}
 (h : KpSt w es T (Bay.new [2050]) n m y J L G sr k vals lv) (ha : es[m]? = some a) (hd : d.cache = []) (hv : Wl.Live y' (Wl.begun 0 Jf.S ⟨Jf.ep, Jf.next - Lf.length, (Jf.t : Nat)⟩ Jf.u Jf.next) (6000 + (m + 1)) Lf none Lf.length)
 (hS : Jf.S = n) (hx : Lf.length + 1 ≤ Jf.next) (hy : Jf.next ≤ 6000 + m) (q : (y.cut [keep]).Went y' 0 d nr 0 0) (hr : nr ≤ 10000) (hT : found T' = Lf) (hnc : NoCome (y.cut [keep]) 0) (hcl : (y.cut [keep]).Low (21000 + 3 * wopW es m + 10000 * m)) :
 KpSt w es T' (Bay.new [2050]) n (m + 1) y' (Wl.begun 0 Jf.S ⟨Jf.ep, Jf.next - Lf.length, (Jf.t : Nat)⟩ Jf.u Jf.next) Lf none Lf.length 0 (T'.map (·.1)) (.slice none 0 0) := by
 have hl : (y.cut [keep]).slots.length = 1 := by
  show (y.slots.mapIdx (Bay.cutSlot [keep])).length = 1
  rw [List.length_mapIdx, calm_len h.calm]
  rfl
 refine ⟨.inl ⟨rfl, hv⟩, rfl, hS, one_calm (q.len.trans hl) ?_, (went_low hcl q hd).mono (by rw [wopW_succ ha]; omega), by rw [List.length_map, ← hT]; unfold found; rw [List.length_map], by omega, fun i u l hu hl => ?_, (fun l hl => by cases hl), ⟨_, _, _, rfl⟩⟩
 ·exact q.come.trans hnc
 ·rw [List.getElem?_map] at hu
  rw [← hT] at hl
  unfold found at hl
  rw [List.getElem?_map] at hl
  cases ht : T'[i]? with
  | none => rw [ht] at hu; cases hu
  | some t =>
    rw [ht] at hu hl
    exact .inr ⟨t, List.mem_of_getElem? ht, (Option.some.inj hu).symm, (Option.some.inj hl).symm⟩

/-- A new disk behind Format, of whatever size. -/
theorem Wl.fresh_in {d' d : Dk} {n ep N : Nat} (hN : 2 + n ≤ N) (hd : d = Dk.new N) (e : d' = { d with last := (d.cache ++ Wl.zerosAt n ++ [(1, Ck.enc ⟨ep, 1, 0⟩)]).foldl Dk.lay d.last, cache := [] }) :
 (∀ p, p < n → d'.last.getD (2 + p) [] = Sc.zeros) ∧ d'.last.getD 1 [] = Ck.enc ⟨ep, 1, 0⟩ ∧ d'.last.length = N ∧ d'.cache = [] := by
 have hl : d.last.length = N := by rw [hd]; simp [Dk.new]
 have hc : d.cache = [] := by rw [hd]; rfl
 have hz : ∀ k, k < N → d.last.getD k [] = Sc.zeros := fun k hk => by
  rw [hd]
  simp [Dk.new, List.getD, hk, Sc.zeros]
 refine ⟨fun p hp => ?_, ?_, ?_, by rw [e]⟩
 ·rw [e]
  show ((d.cache ++ Wl.zerosAt n ++ [(1, Ck.enc ⟨ep, 1, 0⟩)]).foldl Dk.lay d.last).getD (2 + p) [] = _
  rw [Dk.lays_getD _ _ _ (by omega), hz _ (by omega), hc, List.nil_append]
  refine Wl.over_same fun w hw he => ?_
  rcases List.mem_append.1 hw with q | q
  ·obtain ⟨_, _, rfl⟩ := List.mem_map.1 q
   rfl
  ·rw [List.mem_singleton.1 q] at he
   simp at he
   omega
 ·rw [e]
  show ((d.cache ++ Wl.zerosAt n ++ [(1, Ck.enc ⟨ep, 1, 0⟩)]).foldl Dk.lay d.last).getD 1 [] = _
  rw [Dk.lays_getD _ _ _ (by omega), over_app]
  simp [Dk.over]
 ·rw [e]
  show ((d.cache ++ Wl.zerosAt n ++ [(1, Ck.enc ⟨ep, 1, 0⟩)]).foldl Dk.lay d.last).length = _
  rw [Dk.lays_length]
  exact hl

/-- The journal at the beginning. -/
theorem kp_begin {w : World} {es : List WOpD} {n : Nat} (n5 : 5 ≤ n) (n2 : n ≤ 2048) : (Wl.fmtIo (Bay.new [2050]) 0 n 1).2 = 0 ∧
 KpSt w es [] (Bay.new [2050]) n 0 (Wl.fmtIo (Bay.new [2050]) 0 n 1).1 (Wl.begun 0 n ⟨1, 1, 0⟩ 0 1) [] none 0 0 [] (.slice none 0 0) := by
 have hu : (Bay.new [2050]).Up 0 (Dk.new 2050) := ⟨rfl, rfl, rfl, rfl⟩
 obtain ⟨d', h1, h2, h3, h4⟩ := Wl.fmt_up (s := 0) (d := Dk.new 2050) (B := 6000) (n := n) (ep := 1) hu n5 n2 (by show 2 + n ≤ (List.replicate 2050 (List.replicate 128 0)).length; rw [List.length_replicate]; omega) (by decide) ⟨by decide, by decide⟩
 obtain ⟨q1, q2, q3, q4⟩ := Wl.fresh_in (n := n) (ep := 1) (N := 2050) (by omega) rfl h4
 have hnow : ∀ k, d'.now k = d'.last.getD k [] := fun k => by unfold Dk.now; rw [q4]; rfl
 have hz : ∀ p, p < n → d'.now (2 + p) = Sc.zeros := fun p hp => by rw [hnow]; exact q1 p hp
 have hk : Wl.Keeps d' (Wl.begun 0 n ⟨1, 1, 0⟩ 0 1) [] none := by
  refine ⟨fun p hp => ?_, ?_, Wl.ck1_ok, fun l hl => (by cases hl), Nat.le_refl _, rfl, fun j s hj => (by cases hj), fun p hp hd => ?_, rfl, fun l hl => (by cases hl)⟩
  ·rw [hz p hp]
   exact ⟨by simp [Sc.zeros], fun x hx => by rw [(List.mem_replicate.1 hx).2]; decide⟩
  ·show d'.now 1 = Ck.enc ⟨1, 1, 0⟩
   rw [hnow]
   exact q2
  ·rw [hz p hp] at hd
   exact absurd hd Sc.derr_zeros.2
 have ht : ∀ {y : Bay}, y.trip = none → y = y.timed none := fun {y} h => by
  cases y
  simp only at h
  subst h
  rfl
 exact ⟨h1, .inl ⟨rfl, ⟨⟨_, none, d', ht h3.up.trip, h3, hk, .inl ⟨q4, Nat.le_refl _⟩⟩⟩⟩, rfl, rfl, Calm.fmt _ _ _ _, (Wl.fmtIo_low (Bay.new_low [2050]) 0 n 1).mono (by omega), rfl, by show 0 + 1 ≤ _; omega, fun i u l hu _ => by simp at hu, (fun l hl => by cases hl), ⟨_, _, _, rfl⟩⟩

end Go.Proofs.YtkafkdlgflkjgaaGreat
