/-
  Which batches of a ring count, in numbers. No function of the program is named here. By an AI agent.
-/
import Derived.Test.YtkafkdlgflkjgaaGreatBG
import Derived.Test.YtkafkdlgflkjgaaGreatBLfSpec
namespace Go.Proofs.YtkafkdlgflkjgaaGreat
open Crc

theorem sum_lt_of {bs : List Nat} (h : Bs bs) : sum bs < 4294967296 := more_lt (by decide) h

theorem esc_len {b : List Nat} (h : b.length = 128) : (escV b).length = 128 := by
 unfold escV
 rw [if_pos h]
 split
 ·rw [List.length_append, List.length_replicate, List.length_drop, h]
 ·exact h

theorem esc_bs {b : List Nat} (h : b.length = 128) (hb : Bs b) : Bs (escV b) := by
 unfold escV
 rw [if_pos h]
 split
 ·intro x hx
  rcases List.mem_append.1 hx with hx | hx
  ·rw [(List.mem_replicate.1 hx).2]; decide
  ·exact hb x (List.mem_of_mem_drop hx)
 ·exact hb

theorem une_esc {b : List Nat} (h : b.length = 128) : uneE (escV b) (escB b) = 0 ∧ uneV (escV b) (escB b) = b := by
 have hl := esc_len h
 have hB : escB b = begOf b magicB := by simp [escB, h]
 rw [hB]
 by_cases c : begOf b magicB = true
 ·have e : escV b = List.replicate 4 0 ++ b.drop 4 := by unfold escV; rw [if_pos h, if_pos c]
  have z : begOf (escV b) (List.replicate 4 0) = true := by
   unfold begOf
   rw [e]
   exact decide_eq_true (List.take_left' (by simp))
  have m : b.take 4 = magicB := by simpa [begOf] using c
  rw [c]
  refine ⟨by unfold uneE; rw [if_pos hl, if_pos rfl, if_pos z], ?_⟩
  unfold uneV
  rw [if_pos hl, if_pos rfl, if_pos z, e, List.drop_left' (by simp), ← m, List.take_append_drop]
 ·have e : escV b = b := by unfold escV; rw [if_pos h, if_neg c]
  have c2 : begOf b magicB = false := by simpa using c
  rw [e, c2]
  exact ⟨by unfold uneE; rw [if_pos h, if_neg (by decide), if_neg c], by unfold uneV; rw [if_pos h, if_neg (by decide), if_neg c]⟩

theorem esc_une {g : List Nat} {es : Bool} (h : g.length = 128) (hb : Bs g) (hu : uneE g es = 0) : escV (uneV g es) = g ∧ escB (uneV g es) = es ∧ (uneV g es).length = 128 ∧ Bs (uneV g es) := by
 unfold uneE at hu
 rw [if_pos h] at hu
 cases es
 ·rw [if_neg (by decide)] at hu
  by_cases c : begOf g magicB = true
  ·rw [if_pos c] at hu; cases hu
  ·have e : uneV g false = g := by unfold uneV; rw [if_pos h, if_neg (by decide), if_neg c]
   have c2 : begOf g magicB = false := by simpa using c
   rw [e]
   exact ⟨by unfold escV; rw [if_pos h, if_neg c], by simp [escB, c2], h, hb⟩
 ·rw [if_pos rfl] at hu
  by_cases c : begOf g (List.replicate 4 0) = true
  ·have e : uneV g true = magicB ++ g.drop 4 := by unfold uneV; rw [if_pos h, if_pos rfl, if_pos c]
   have z : g.take 4 = List.replicate 4 0 := by simpa [begOf] using c
   have l : (magicB ++ g.drop 4).length = 128 := by rw [List.length_append, List.length_drop, h]; rfl
   have b4 : begOf (magicB ++ g.drop 4) magicB = true := by unfold begOf; exact decide_eq_true (List.take_left' rfl)
   rw [e]
   refine ⟨?_, by simp [escB, l, b4], l, ?_⟩
   ·unfold escV
    rw [if_pos l, if_pos b4, List.drop_left' (show magicB.length = 4 from rfl), ← z, List.take_append_drop]
   ·intro x hx
    rcases List.mem_append.1 hx with hx | hx
    ·have : Bs magicB := by unfold Bs magicB; decide
     exact this x hx
    ·exact hb x (List.mem_of_mem_drop hx)
  ·rw [if_neg c] at hu; cases hu

namespace Sc

/-- A sector of a ring, going round. -/
def sec (ring : List Nat) (p : Nat) : List Nat := cut ring (128 * (p % (ring.length / 128))) 128

theorem sec_mod (ring : List Nat) (p i : Nat) : sec ring (p % (ring.length / 128) + i) = sec ring (p + i) := by
 unfold sec
 rw [Nat.mod_add_mod]

theorem sec_len {ring : List Nat} (h : 128 ≤ ring.length) (p : Nat) : (sec ring p).length = 128 := by
 refine cut_len ?_
 have h1 : p % (ring.length / 128) < ring.length / 128 := Nat.mod_lt _ (by omega)
 omega

theorem sec_bs {ring : List Nat} (h : Bs ring) (p : Nat) : Bs (sec ring p) := cut_bs h _ _

/-- A header of this batch, at this place of it, and what is logged behind it. -/
def Fits (ep sq n i : Nat) (b g : List Nat) : Prop := Hd.derr b = 0 ∧ (Hd.of b).ep = ep ∧ (Hd.of b).sq = sq ∧ (Hd.of b).ix = i ∧ (Hd.of b).ct = n ∧ sum g = (Hd.of b).sm ∧ uneE g (Hd.of b).esc = 0

def ptOf (b g : List Nat) : Pd := ⟨(Hd.of b).mb.toNat, (Hd.of b).rw'.toNat, uneV g (Hd.of b).esc⟩

/-- The commit of this batch. -/
def Ends (ep sq n : Nat) (hs c : List Nat) : Prop := Cm.derr c = 0 ∧ (Cm.of c).ep = ep ∧ (Cm.of c).sq = sq ∧ (Cm.of c).ct = n ∧ (Cm.of c).sm = sum hs

def heads (ring : List Nat) (at_ k : Nat) : List Nat := (List.range k).flatMap fun i => sec ring (at_ + 2 * i)
def pts (ring : List Nat) (at_ k : Nat) : List Pd := (List.range k).map fun i => ptOf (sec ring (at_ + 2 * i)) (sec ring (at_ + 2 * i + 1))

theorem heads_succ (ring : List Nat) (at_ k : Nat) : heads ring at_ (k + 1) = heads ring at_ k ++ sec ring (at_ + 2 * k) := by
 simp [heads, List.range_succ]

theorem pts_succ (ring : List Nat) (at_ k : Nat) : pts ring at_ (k + 1) = pts ring at_ k ++ [ptOf (sec ring (at_ + 2 * k)) (sec ring (at_ + 2 * k + 1))] := by
 simp [pts, List.range_succ]

theorem pts_len (ring : List Nat) (at_ k : Nat) : (pts ring at_ k).length = k := by simp [pts]

theorem heads_bs {ring : List Nat} (h : Bs ring) (at_ k : Nat) : Bs (heads ring at_ k) := fun x hx => by
 obtain ⟨i, _, hi⟩ := List.mem_flatMap.1 hx
 exact sec_bs h _ x hi

/-- The batch of a number at a place counts. -/
structure Whole (ring : List Nat) (at_ room ep sq n : Nat) : Prop where
 room : 2 * n + 1 ≤ room
 small : sq ≤ 4611686018427387904
 pos : 1 ≤ n
 each : ∀ i, i < n → Fits ep sq n i (sec ring (at_ + 2 * i)) (sec ring (at_ + 2 * i + 1))
 ends : Ends ep sq n (heads ring at_ n) (sec ring (at_ + 2 * n))

theorem Whole.first {ring : List Nat} {at_ room ep sq n : Nat} (h : Whole ring at_ room ep sq n) : Fits ep sq n 0 (sec ring at_) (sec ring (at_ + 1)) := h.each 0 h.pos

theorem Whole.uniq {ring : List Nat} {at_ room ep sq n m : Nat} (h : Whole ring at_ room ep sq n) (k : Whole ring at_ room ep sq m) : n = m := by
 have h1 := h.first.2.2.2.2.1
 have h2 := k.first.2.2.2.2.1
 omega

/-- A round of a scan behind the other: what was found so far, and how many sectors that takes. -/
inductive Got (ring : List Nat) (ep at_ sq : Nat) : List (List Pd) → Nat → Prop
 | nil : Got ring ep at_ sq [] 0
 | more {L : List (List Pd)} {u n : Nat} (h : Got ring ep at_ sq L u) (k : Whole ring (at_ + u) (ring.length / 128 - u) ep (sq + L.length) n) : Got ring ep at_ sq (L ++ [pts ring (at_ + u) n]) (u + (2 * n + 1))

theorem Got.fits {ring : List Nat} {ep at_ sq u : Nat} {L : List (List Pd)} (h : Got ring ep at_ sq L u) : u ≤ ring.length / 128 := by
 cases h with
 | nil => exact Nat.zero_le _
 | more h k => have := k.room; omega

theorem Got.used {ring : List Nat} {ep at_ sq u : Nat} {L : List (List Pd)} (h : Got ring ep at_ sq L u) : u = (L.map fun l => 2 * l.length + 1).sum := by
 induction h with
 | nil => rfl
 | more h k ih => rw [List.map_append, List.sum_append, ← ih]; simp [pts_len]

theorem Got.same {ring : List Nat} {ep at_ sq : Nat} : ∀ {n : Nat} {L L' : List (List Pd)} {u u' : Nat}, L.length = n → L'.length = n → Got ring ep at_ sq L u → Got ring ep at_ sq L' u' → L = L' ∧ u = u'
 | 0, L, L', u, u', hl, hl', h, h' => by
   cases h with
   | more h k => rw [List.length_append] at hl; cases hl
   | nil =>
     cases h' with
     | more h k => rw [List.length_append] at hl'; cases hl'
     | nil => exact ⟨rfl, rfl⟩
 | n + 1, L, L', u, u', hl, hl', h, h' => by
   cases h with
   | nil => cases hl
   | more h k =>
     cases h' with
     | nil => cases hl'
     | more h' k' =>
       rw [List.length_append] at hl hl'
       obtain ⟨rfl, rfl⟩ := Got.same (n := n) (Nat.succ.inj hl) (Nat.succ.inj hl') h h'
       obtain rfl := k.uniq k'
       exact ⟨rfl, rfl⟩

theorem Got.less {ring : List Nat} {ep at_ sq u : Nat} {L : List (List Pd)} (h : Got ring ep at_ sq L u) : ∀ {m : Nat}, m < L.length → ∃ u' n, Got ring ep at_ sq (L.take m) u' ∧ Whole ring (at_ + u') (ring.length / 128 - u') ep (sq + m) n := by
 induction h with
 | nil => intro m hm; cases hm
 | @more L u n h k ih =>
   intro m hm
   rw [List.length_append] at hm
   by_cases e : m = L.length
   ·subst e
    exact ⟨u, n, by rw [List.take_left]; exact h, k⟩
   ·have hm2 : m < L.length := by simp only [List.length_cons, List.length_nil] at hm; omega
    obtain ⟨u', n', h1, h2⟩ := ih hm2
    exact ⟨u', n', by rw [List.take_append_of_le_length (by omega)]; exact h1, h2⟩

/-- A scan that has come to its end. -/
def Done (ring : List Nat) (ep at_ sq : Nat) (L : List (List Pd)) (u : Nat) : Prop := Got ring ep at_ sq L u ∧ ∀ n, ¬ Whole ring (at_ + u) (ring.length / 128 - u) ep (sq + L.length) n

theorem Done.uniq {ring : List Nat} {ep at_ sq u u' : Nat} {L L' : List (List Pd)} (h : Done ring ep at_ sq L u) (h' : Done ring ep at_ sq L' u') : L = L' ∧ u = u' := by
 rcases Nat.lt_trichotomy L.length L'.length with c | c | c
 ·obtain ⟨v, n, h1, h2⟩ := h'.1.less c
  obtain ⟨e1, e2⟩ := Got.same (n := L.length) rfl (by rw [List.length_take]; omega) h.1 h1
  exact absurd (e2 ▸ h2) (h.2 n)
 ·exact Got.same rfl c.symm h.1 h'.1
 ·obtain ⟨v, n, h1, h2⟩ := h.1.less c
  obtain ⟨e1, e2⟩ := Got.same (n := L'.length) rfl (by rw [List.length_take]; omega) h'.1 h1
  exact absurd (e2 ▸ h2) (h'.2 n)

/-- A batch's patch that may be written. -/
def PtOk (p : Pd) : Prop := p.m ≤ 15 ∧ p.r ≤ 4095 ∧ p.bs.length = 128 ∧ Bs p.bs

def hdOf (ep sq n i : Nat) (p : Pd) : Hd := ⟨ep, sq, i, n, p.m, p.r, escB p.bs, sum (escV p.bs)⟩
def cmOf (ep sq n : Nat) (hs : List Nat) : Cm := ⟨ep, sq, n, sum hs⟩

/-- A batch's sectors lie in a ring, from a place on. -/
structure Laid (ring : List Nat) (at_ ep sq : Nat) (l : List Pd) : Prop where
 hd : ∀ (i : Nat) (p : Pd), l[i]? = some p → sec ring (at_ + 2 * i) = (hdOf ep sq l.length i p).rec'.sector
 dt : ∀ (i : Nat) (p : Pd), l[i]? = some p → sec ring (at_ + 2 * i + 1) = escV p.bs
 cm : sec ring (at_ + 2 * l.length) = (cmOf ep sq l.length (heads ring at_ l.length)).rec'.sector

theorem hdOf_ok {ep sq n i : Nat} {p : Pd} (hn : numsOk ep sq) (h1 : n ≤ 1023) (hi : i < n) (hp : PtOk p) : (hdOf ep sq n i p).Ok := by
 obtain ⟨a, b, _, _⟩ := hp
 refine ⟨hn, ?_, ?_, ?_, ?_, ?_, ?_, ?_, ?_⟩ <;> simp only [hdOf] <;> omega

theorem hdOf_sum {ep sq n i : Nat} {p : Pd} (hp : PtOk p) : (hdOf ep sq n i p).sm < 4294967296 := sum_lt_of (esc_bs hp.2.2.1 hp.2.2.2)

theorem Laid.fits {ring : List Nat} {at_ ep sq : Nat} {l : List Pd} (h : Laid ring at_ ep sq l) (hn : numsOk ep sq) (h2 : l.length ≤ 1023) (hp : ∀ p ∈ l, PtOk p) {i : Nat} {p : Pd} (hi : l[i]? = some p) :
 Fits ep sq l.length i (sec ring (at_ + 2 * i)) (sec ring (at_ + 2 * i + 1)) ∧ ptOf (sec ring (at_ + 2 * i)) (sec ring (at_ + 2 * i + 1)) = p := by
 have hp1 := hp p (List.mem_of_getElem? hi)
 have ok := hdOf_ok hn h2 (List.getElem?_eq_some_iff.1 hi).1 hp1
 have sm := hdOf_sum (ep := ep) (sq := sq) (n := l.length) (i := i) hp1
 rw [h.hd i p hi, h.dt i p hi]
 have e := Hd.of_sector _ ok sm
 have b := (Hd.back _ ok sm).1
 obtain ⟨u1, u2⟩ := une_esc hp1.2.2.1
 refine ⟨⟨b, by rw [e]; rfl, by rw [e]; rfl, by rw [e]; rfl, by rw [e]; rfl, by rw [e]; rfl, by rw [e]; exact u1⟩, ?_⟩
 unfold ptOf
 rw [e]
 show Pd.mk _ _ (uneV (escV p.bs) (escB p.bs)) = p
 rw [u2]
 rfl

theorem Laid.whole {ring : List Nat} {at_ ep sq room : Nat} {l : List Pd} (h : Laid ring at_ ep sq l) (hr : Bs ring) (hn : numsOk ep sq) (h1 : 1 ≤ l.length) (h2 : l.length ≤ 1023) (hp : ∀ p ∈ l, PtOk p) (hroom : 2 * l.length + 1 ≤ room) :
 Whole ring at_ room ep sq l.length ∧ pts ring at_ l.length = l := by
 refine ⟨⟨hroom, hn.2.2, h1, fun i hi => (h.fits hn h2 hp (List.getElem?_eq_getElem hi)).1, ?_⟩, ?_⟩
 ·have ok : (cmOf ep sq l.length (heads ring at_ l.length)).Ok := by
   refine ⟨hn, ?_, ?_⟩ <;> simp only [cmOf] <;> omega
  have sm : (cmOf ep sq l.length (heads ring at_ l.length)).sm < 4294967296 := sum_lt_of (heads_bs hr _ _)
  rw [h.cm]
  have e := Cm.of_sector _ ok sm
  exact ⟨(Cm.back _ ok sm).1, by rw [e]; rfl, by rw [e]; rfl, by rw [e]; rfl, by rw [e]; rfl⟩
 ·refine List.ext_getElem (pts_len ..) (fun i hi hi2 => ?_)
  have := (h.fits hn h2 hp (List.getElem?_eq_getElem hi2)).2
  simp only [pts, List.getElem_map, List.getElem_range]
  exact this

theorem derr_hd {b : List Nat} (h : Hd.derr b = 0) : (Hd.of b).Ok ∧ (Hd.of b).rec'.sector = b := by
 unfold Hd.derr at h
 split at h
 ·exact absurd h (by assumption)
 ·split at h
  ·assumption
  ·cases h

theorem derr_cm {b : List Nat} (h : Cm.derr b = 0) : (Cm.of b).Ok ∧ (Cm.of b).rec'.sector = b := by
 unfold Cm.derr at h
 split at h
 ·exact absurd h (by assumption)
 ·split at h
  ·assumption
  ·cases h

theorem Fits.back {ep sq n i : Nat} {b g : List Nat} (h : Fits ep sq n i b g) (hl : g.length = 128) (hg : Bs g) : numsOk ep sq ∧ n ≤ 1023 ∧ PtOk (ptOf b g) ∧ b = (hdOf ep sq n i (ptOf b g)).rec'.sector ∧ g = escV (ptOf b g).bs := by
 obtain ⟨h0, h1, h2, h3, h4, h5, h6⟩ := h
 obtain ⟨ok, e⟩ := derr_hd h0
 obtain ⟨u1, u2, u3, u4⟩ := esc_une hl hg h6
 obtain ⟨o1, o2, o3, o4, o5, o6, o7, o8, o9⟩ := ok
 have hb : hdOf ep sq n i (ptOf b g) = Hd.of b := by
  show (⟨ep, sq, (i : Int), (n : Int), (((Hd.of b).mb.toNat : Nat) : Int), (((Hd.of b).rw'.toNat : Nat) : Int), escB (uneV g (Hd.of b).esc), sum (escV (uneV g (Hd.of b).esc))⟩ : Hd) = Hd.of b
  rw [u1, u2, h5, ← h1, ← h2, ← h3, ← h4, Int.toNat_of_nonneg o6, Int.toNat_of_nonneg o8]
 refine ⟨by rw [← h1, ← h2]; exact o1, by omega, ⟨?_, ?_, u3, u4⟩, by rw [hb, e], u1.symm⟩
 ·show (Hd.of b).mb.toNat ≤ 15
  omega
 ·show (Hd.of b).rw'.toNat ≤ 4095
  omega

/-- What counts is made of sectors that a batch of these patches has. -/
theorem Whole.laid {ring : List Nat} {at_ ep sq room n : Nat} (h : Whole ring at_ room ep sq n) (hr : Bs ring) (hl : 128 ≤ ring.length) :
 Laid ring at_ ep sq (pts ring at_ n) ∧ numsOk ep sq ∧ n ≤ 1023 ∧ ∀ p ∈ pts ring at_ n, PtOk p := by
 have F : ∀ i, i < n → _ := fun i hi => (h.each i hi).back (sec_len hl _) (sec_bs hr _)
 have G : ∀ (i : Nat) (p : Pd), (pts ring at_ n)[i]? = some p → i < n ∧ p = ptOf (sec ring (at_ + 2 * i)) (sec ring (at_ + 2 * i + 1)) := fun i p hi => by
  obtain ⟨k, e⟩ := List.getElem?_eq_some_iff.1 hi
  simp only [pts, List.getElem_map, List.getElem_range] at e
  exact ⟨by rw [pts_len] at k; exact k, e.symm⟩
 refine ⟨⟨fun i p hi => ?_, fun i p hi => ?_, ?_⟩, (F 0 h.pos).1, (F 0 h.pos).2.1, fun p hp => ?_⟩
 ·obtain ⟨k, rfl⟩ := G i p hi
  rw [pts_len]
  exact (F i k).2.2.2.1
 ·obtain ⟨k, rfl⟩ := G i p hi
  exact (F i k).2.2.2.2
 ·rw [pts_len]
  obtain ⟨h0, h1, h2, h3, h4⟩ := h.ends
  obtain ⟨ok, e⟩ := derr_cm h0
  have hb : cmOf ep sq n (heads ring at_ n) = Cm.of (sec ring (at_ + 2 * n)) := by
   show (⟨ep, sq, (n : Int), sum (heads ring at_ n)⟩ : Cm) = _
   rw [← h4, ← h1, ← h2, ← h3]
  rw [hb, e]
 ·obtain ⟨i, hi⟩ := List.mem_iff_getElem?.1 hp
  obtain ⟨k, rfl⟩ := G i p hi
  exact (F i k).2.2.1

end Sc
namespace Sc

/-- A sector of a ring is set. -/
def lay (ring : List Nat) (p : Nat) (s : List Nat) : List Nat := ring.take (128 * (p % (ring.length / 128))) ++ s ++ ring.drop (128 * (p % (ring.length / 128)) + 128)

theorem place_lt {ring : List Nat} (h : 128 ≤ ring.length) (p : Nat) : 128 * (p % (ring.length / 128)) + 128 ≤ ring.length := by
 have h1 : p % (ring.length / 128) < ring.length / 128 := Nat.mod_lt _ (by omega)
 omega

theorem mod_ne {s a j k : Nat} (hj : j < k) (hk : k < j + s) : (a + j) % s ≠ (a + k) % s := fun h => by
 have h1 := Nat.sub_mod_eq_zero_of_mod_eq h.symm
 have h2 : a + k - (a + j) = k - j := by omega
 rw [h2] at h1
 have h3 := Nat.mod_eq_of_lt (show k - j < s by omega)
 omega

/-- Pairs, one behind the other. -/
def twos (f g : Nat → List Nat) : Nat → List (List Nat)
 | 0 => []
 | k + 1 => twos f g k ++ [f k, g k]

theorem twos_len (f g : Nat → List Nat) : ∀ k, (twos f g k).length = 2 * k
 | 0 => rfl
 | k + 1 => by rw [twos, List.length_append, twos_len f g k]; simp; omega

theorem twos_at (f g : Nat → List Nat) : ∀ {k i : Nat}, i < k → (twos f g k)[2 * i]? = some (f i) ∧ (twos f g k)[2 * i + 1]? = some (g i)
 | 0, i, h => by cases h
 | k + 1, i, h => by
   have hl := twos_len f g k
   rw [twos]
   by_cases c : i = k
   ·subst c
    rw [List.getElem?_append_right (by omega), List.getElem?_append_right (by omega), hl, Nat.sub_self, show 2 * i + 1 - 2 * i = 1 by omega]
    exact ⟨rfl, rfl⟩
   ·rw [List.getElem?_append_left (by omega), List.getElem?_append_left (by omega)]
    exact twos_at f g (by omega)

def at' (l : List Pd) (i : Nat) : Pd := l.getD i ⟨0, 0, []⟩

theorem at'_eq {l : List Pd} {i : Nat} {p : Pd} (h : l[i]? = some p) : at' l i = p := by
 unfold at'
 rw [List.getD_eq_getElem?_getD, h]
 rfl

def hsec (ep sq : Nat) (l : List Pd) (i : Nat) : List Nat := (hdOf ep sq l.length i (at' l i)).rec'.sector
def hcat (ep sq : Nat) (l : List Pd) (k : Nat) : List Nat := (List.range k).flatMap (hsec ep sq l)

/-- The sectors of a batch. -/
def secs (ep sq : Nat) (l : List Pd) : List (List Nat) := twos (hsec ep sq l) (fun i => escV (at' l i).bs) l.length ++ [(cmOf ep sq l.length (hcat ep sq l l.length)).rec'.sector]

theorem hcat_succ (ep sq : Nat) (l : List Pd) (k : Nat) : hcat ep sq l (k + 1) = hcat ep sq l k ++ hsec ep sq l k := by
 simp [hcat, List.range_succ]

theorem secs_len (ep sq : Nat) (l : List Pd) : (secs ep sq l).length = 2 * l.length + 1 := by
 rw [secs, List.length_append, twos_len]
 rfl

theorem secs_hd (ep sq : Nat) {l : List Pd} {i : Nat} (h : i < l.length) : (secs ep sq l)[2 * i]? = some (hsec ep sq l i) := by
 rw [secs, List.getElem?_append_left (by rw [twos_len]; omega)]
 exact (twos_at _ _ h).1

theorem secs_dt (ep sq : Nat) {l : List Pd} {i : Nat} (h : i < l.length) : (secs ep sq l)[2 * i + 1]? = some (escV (at' l i).bs) := by
 rw [secs, List.getElem?_append_left (by rw [twos_len]; omega)]
 exact (twos_at _ _ h).2

theorem secs_cm (ep sq : Nat) (l : List Pd) : (secs ep sq l)[2 * l.length]? = some (cmOf ep sq l.length (hcat ep sq l l.length)).rec'.sector := by
 rw [secs, List.getElem?_append_right (by rw [twos_len]; omega), twos_len, Nat.sub_self]
 rfl

theorem flatMap_congr' {f g : Nat → List Nat} : ∀ {l : List Nat}, (∀ i ∈ l, f i = g i) → l.flatMap f = l.flatMap g
 | [], _ => rfl
 | a :: l, h => by
   rw [List.flatMap_cons, List.flatMap_cons, h a (List.mem_cons_self ..), flatMap_congr' fun i hi => h i (List.mem_cons_of_mem _ hi)]

theorem laid_of {ring : List Nat} {at_ ep sq : Nat} {l : List Pd} (h : ∀ (j : Nat) (s : List Nat), (secs ep sq l)[j]? = some s → sec ring (at_ + j) = s) : Laid ring at_ ep sq l := by
 have H : ∀ i, i < l.length → sec ring (at_ + 2 * i) = hsec ep sq l i := fun i hi => h _ _ (secs_hd ep sq hi)
 have E : heads ring at_ l.length = hcat ep sq l l.length := flatMap_congr' fun i hi => H i (List.mem_range.1 hi)
 refine ⟨fun i p hi => ?_, fun i p hi => ?_, ?_⟩
 ·rw [H i (List.getElem?_eq_some_iff.1 hi).1, hsec, at'_eq hi]
 ·rw [Nat.add_assoc, h _ _ (secs_dt ep sq (List.getElem?_eq_some_iff.1 hi).1), at'_eq hi]
 ·rw [E]
  exact h _ _ (secs_cm ep sq l)

theorem Laid.secs {ring : List Nat} {at_ ep sq : Nat} {l : List Pd} (h : Laid ring at_ ep sq l) {j : Nat} {s : List Nat} (hs : (secs ep sq l)[j]? = some s) : sec ring (at_ + j) = s := by
 have H : ∀ i, i < l.length → sec ring (at_ + 2 * i) = hsec ep sq l i := fun i hi => by
  rw [h.hd i _ (List.getElem?_eq_getElem hi), hsec, at'_eq (List.getElem?_eq_getElem hi)]
 have E : heads ring at_ l.length = hcat ep sq l l.length := flatMap_congr' fun i hi => H i (List.mem_range.1 hi)
 have hj : j < 2 * l.length + 1 := by rw [← secs_len ep sq l]; exact (List.getElem?_eq_some_iff.1 hs).1
 by_cases c : j = 2 * l.length
 ·subst c
  rw [secs_cm] at hs
  rw [← Option.some.inj hs, h.cm, E]
 ·by_cases e : j % 2 = 0
  ·obtain ⟨i, rfl⟩ : ∃ i, j = 2 * i := ⟨j / 2, by omega⟩
   rw [secs_hd ep sq (by omega)] at hs
   rw [← Option.some.inj hs]
   exact H i (by omega)
  ·obtain ⟨i, rfl⟩ : ∃ i, j = 2 * i + 1 := ⟨j / 2, by omega⟩
   have hi : i < l.length := by omega
   rw [secs_dt ep sq hi] at hs
   rw [← Option.some.inj hs, ← Nat.add_assoc, h.dt i _ (List.getElem?_eq_getElem hi), at'_eq (List.getElem?_eq_getElem hi)]

/-- Batches with rising numbers, one behind the other. -/
def chain (ep : Nat) : Nat → List (List Pd) → List (List Nat)
 | _, [] => []
 | sq, l :: L => secs ep sq l ++ chain ep (sq + 1) L

theorem chain_snoc (ep : Nat) (l : List Pd) : ∀ (L : List (List Pd)) (sq : Nat), chain ep sq (L ++ [l]) = chain ep sq L ++ secs ep (sq + L.length) l
 | [], sq => by simp [chain]
 | a :: L, sq => by
   show secs ep sq a ++ chain ep (sq + 1) (L ++ [l]) = _
   rw [chain_snoc ep l L (sq + 1), chain, List.append_assoc, List.length_cons]
   congr 3
   omega

theorem chain_append (ep : Nat) (M : List (List Pd)) : ∀ (L : List (List Pd)) (sq : Nat), chain ep sq (L ++ M) = chain ep sq L ++ chain ep (sq + L.length) M
 | [], sq => by simp [chain]
 | a :: L, sq => by
   show secs ep sq a ++ chain ep (sq + 1) (L ++ M) = _
   rw [chain_append ep M L (sq + 1), chain, List.append_assoc, List.length_cons]
   congr 3
   omega

/-- A batch that may be written. -/
def Good (l : List Pd) : Prop := 1 ≤ l.length ∧ l.length ≤ 1023 ∧ ∀ p ∈ l, PtOk p

theorem got_step {ring : List Nat} {ep at_ sq : Nat} (hr : Bs ring) (hep : ep ≤ 4611686018427387904) (h1 : 1 ≤ sq) {L : List (List Pd)} {l : List Pd} (G : Got ring ep at_ sq L (chain ep sq L).length) (hs : ∀ (j : Nat) (s : List Nat), (chain ep sq (L ++ [l]))[j]? = some s → sec ring (at_ + j) = s) (hg : Good l) (hl : (chain ep sq (L ++ [l])).length ≤ ring.length / 128) (hq : sq + L.length ≤ 4611686018427387904) :
 Got ring ep at_ sq (L ++ [l]) (chain ep sq (L ++ [l])).length := by
 rw [chain_snoc] at hs hl ⊢
 rw [List.length_append, secs_len] at hl ⊢
 have LD : Laid ring (at_ + (chain ep sq L).length) ep (sq + L.length) l := laid_of fun j s h => by
  rw [Nat.add_assoc]
  exact hs _ s (by rw [List.getElem?_append_right (by omega), Nat.add_sub_cancel_left]; exact h)
 obtain ⟨g1, g2, g3⟩ := hg
 obtain ⟨W, e⟩ := LD.whole (room := ring.length / 128 - (chain ep sq L).length) hr ⟨hep, by omega, by omega⟩ g1 g2 g3 (by omega)
 have := Got.more G W
 rw [e] at this
 exact this

theorem got_on {ring : List Nat} {ep at_ sq : Nat} (hr : Bs ring) (hep : ep ≤ 4611686018427387904) (h1 : 1 ≤ sq) : ∀ (L0 L : List (List Pd)), Got ring ep at_ sq L0 (chain ep sq L0).length → (∀ (j : Nat) (s : List Nat), (chain ep sq (L0 ++ L))[j]? = some s → sec ring (at_ + j) = s) → (∀ l ∈ L, Good l) → (chain ep sq (L0 ++ L)).length ≤ ring.length / 128 → sq + (L0 ++ L).length ≤ 4611686018427387904 →
 Got ring ep at_ sq (L0 ++ L) (chain ep sq (L0 ++ L)).length
 | L0, [], G, _, _, _, _ => by rw [List.append_nil]; exact G
 | L0, l :: L, G, hs, hg, hl, hq => by
   have e : L0 ++ l :: L = (L0 ++ [l]) ++ L := by simp
   rw [e] at hs hl hq ⊢
   have hl2 : (chain ep sq (L0 ++ [l])).length ≤ ring.length / 128 := by
    rw [chain_append ep L (L0 ++ [l]), List.length_append] at hl
    omega
   refine got_on hr hep h1 (L0 ++ [l]) L (got_step hr hep h1 G (fun j s h => hs j s ?_) (hg l (List.mem_cons_self ..)) hl2 (by simp only [List.length_append, List.length_cons, List.length_nil] at hq; omega)) hs (fun x hx => hg x (List.mem_cons_of_mem _ hx)) hl hq
   rw [chain_append ep L (L0 ++ [l]), List.getElem?_append_left (List.getElem?_eq_some_iff.1 h).1]
   exact h

/-- What lies in a ring is found. -/
theorem got_of {ring : List Nat} {ep at_ sq : Nat} (hr : Bs ring) (hep : ep ≤ 4611686018427387904) (h1 : 1 ≤ sq) (L : List (List Pd)) (hs : ∀ (j : Nat) (s : List Nat), (chain ep sq L)[j]? = some s → sec ring (at_ + j) = s) (hg : ∀ l ∈ L, Good l) (hl : (chain ep sq L).length ≤ ring.length / 128) (hq : sq + L.length ≤ 4611686018427387904) :
 Got ring ep at_ sq L (chain ep sq L).length := got_on hr hep h1 [] L .nil hs hg hl hq

theorem Got.ahead {ring : List Nat} {ep at_ sq u u' : Nat} {L L' : List (List Pd)} (h : Got ring ep at_ sq L u) (h' : Done ring ep at_ sq L' u') : L'.take L.length = L ∧ L.length ≤ L'.length := by
 rcases Nat.lt_or_ge L'.length L.length with c | c
 ·obtain ⟨v, n, h1, h2⟩ := h.less c
  obtain ⟨e1, e2⟩ := Got.same (n := L'.length) rfl (by rw [List.length_take]; omega) h'.1 h1
  exact absurd (e2 ▸ h2) (h'.2 n)
 ·refine ⟨?_, c⟩
  rcases Nat.lt_or_ge L.length L'.length with d | d
  ·obtain ⟨v, n, h1, h2⟩ := h'.1.less d
   exact (Got.same (n := L.length) rfl (by rw [List.length_take]; omega) h h1).1.symm
  ·have e : L.length = L'.length := by omega
   rw [e, List.take_length]
   exact (Got.same e.symm rfl h'.1 h).1

end Sc
namespace Sc

def zeros : List Nat := List.replicate 128 0

theorem derr_other {b : List Nat} (h : b.take 4 ≠ magicB) : Hd.derr b ≠ 0 ∧ Cm.derr b ≠ 0 := by
 have k0 : kindOf b = 0 := by unfold kindOf; rw [if_neg fun k => h k.2.1]
 have l1 : ∀ k, k ≠ 0 → lookOf k b ≠ 0 := fun k hk => by
  unfold lookOf
  rw [k0]
  split
  ·decide
  ·rw [if_pos (fun e => hk e.symm)]
   decide
 refine ⟨?_, ?_⟩
 ·unfold Hd.derr
  rw [if_pos (l1 1 (by decide))]
  exact l1 1 (by decide)
 ·unfold Cm.derr
  rw [if_pos (l1 2 (by decide))]
  exact l1 2 (by decide)

theorem derr_zeros : Hd.derr zeros ≠ 0 ∧ Cm.derr zeros ≠ 0 := derr_other (by decide)

theorem Whole.ne {ring : List Nat} {at_ room ep sq : Nat} (h : Hd.derr (sec ring at_) ≠ 0) (n : Nat) : ¬ Whole ring at_ room ep sq n := fun k => h k.first.1

/-- A first header of another batch. -/
theorem Whole.other {ring : List Nat} {at_ room ep sq : Nat} (h : ¬ ((Hd.of (sec ring at_)).ep = ep ∧ (Hd.of (sec ring at_)).sq = sq)) (n : Nat) : ¬ Whole ring at_ room ep sq n := fun k => h ⟨k.first.2.1, k.first.2.2.1⟩

theorem Laid.head {ring : List Nat} {at_ ep sq : Nat} {l : List Pd} (h : Laid ring at_ ep sq l) (hn : numsOk ep sq) (hg : Good l) : Hd.of (sec ring at_) = hdOf ep sq l.length 0 (at' l 0) := by
 have h0 : 0 < l.length := hg.1
 have hi : l[0]? = some (l[0]'h0) := List.getElem?_eq_getElem h0
 have hp := hg.2.2 _ (List.getElem_mem h0)
 have e := h.hd 0 _ hi
 rw [Nat.mul_zero, Nat.add_zero] at e
 rw [e, at'_eq hi]
 exact Hd.of_sector _ (hdOf_ok hn hg.2.1 h0 hp) (hdOf_sum hp)

theorem chain_take_lt (ep sq : Nat) {L : List (List Pd)} {w : Nat} {l : List Pd} (h : L[w]? = some l) : (chain ep sq L).length = (chain ep sq (L.take w)).length + (2 * l.length + 1) + (chain ep (sq + w + 1) (L.drop (w + 1))).length ∧ ∀ (o : Nat) (s : List Nat), (secs ep (sq + w) l)[o]? = some s → (chain ep sq L)[(chain ep sq (L.take w)).length + o]? = some s := by
 obtain ⟨hw, hl⟩ := List.getElem?_eq_some_iff.1 h
 have e : L = L.take w ++ l :: L.drop (w + 1) := by rw [← hl, List.getElem_cons_drop, List.take_append_drop]
 have hlw : (L.take w).length = w := by rw [List.length_take]; omega
 have c : chain ep sq L = chain ep sq (L.take w) ++ (secs ep (sq + w) l ++ chain ep (sq + w + 1) (L.drop (w + 1))) := by
  have h2 : chain ep sq L = chain ep sq (L.take w ++ l :: L.drop (w + 1)) := by rw [← e]
  rw [h2, chain_append, hlw]
  rfl
 refine ⟨?_, fun o s hs => ?_⟩
 ·rw [c, List.length_append, List.length_append, secs_len]
  omega
 ·rw [c, List.getElem?_append_right (by omega), Nat.add_sub_cancel_left, List.getElem?_append_left (List.getElem?_eq_some_iff.1 hs).1]
  exact hs

/-- A checkpoint that has gone on to a later batch finds that one and those behind it. -/
theorem from_done {ring : List Nat} {ep at_ sq : Nat} (hr : Bs ring) (hep : ep ≤ 4611686018427387904) (h1 : 1 ≤ sq) {L : List (List Pd)} (hs : ∀ (j : Nat) (s : List Nat), (chain ep sq L)[j]? = some s → sec ring (at_ + j) = s)
 (hz : ∀ q, (∀ j, j < (chain ep sq L).length → (at_ + j) % (ring.length / 128) ≠ q % (ring.length / 128)) → sec ring q = zeros) (hg : ∀ l ∈ L, Good l) (hl : (chain ep sq L).length ≤ ring.length / 128) (hq : sq + L.length ≤ 4611686018427387904) {i : Nat} (hi : i < L.length) :
 Done ring ep ((at_ + (chain ep sq (L.take i)).length) % (ring.length / 128)) (sq + i) (L.drop i) (chain ep (sq + i) (L.drop i)).length := by
 have hlw : (L.take i).length = i := by rw [List.length_take]; omega
 have C : chain ep sq L = chain ep sq (L.take i) ++ chain ep (sq + i) (L.drop i) := by
  have h2 : chain ep sq L = chain ep sq (L.take i ++ L.drop i) := by rw [List.take_append_drop]
  rw [h2, chain_append, hlw]
 have CL : (chain ep sq L).length = (chain ep sq (L.take i)).length + (chain ep (sq + i) (L.drop i)).length := by rw [C, List.length_append]
 have hld : (L.drop i).length = L.length - i := List.length_drop
 generalize hb : (chain ep sq (L.take i)).length = b at *
 refine ⟨got_of hr hep (by omega) (L.drop i) (fun j s h => ?_) (fun x hx => hg x (List.mem_of_mem_drop hx)) (by omega) (by omega), fun n => ?_⟩
 ·rw [sec_mod, Nat.add_assoc]
  refine hs _ s ?_
  rw [C, List.getElem?_append_right (by omega), hb, Nat.add_sub_cancel_left]
  exact h
 ·have e : sec ring ((at_ + b) % (ring.length / 128) + (chain ep (sq + i) (L.drop i)).length) = sec ring (at_ + (chain ep sq L).length) := by rw [sec_mod, CL, Nat.add_assoc]
  by_cases c : (chain ep sq L).length = ring.length / 128
  ·refine Whole.other ?_ n
   have e2 : sec ring (at_ + ring.length / 128) = sec ring at_ := by unfold sec; rw [Nat.add_mod_right]
   obtain ⟨l, hl0⟩ : ∃ l, L[0]? = some l := ⟨_, List.getElem?_eq_getElem (show 0 < L.length by omega)⟩
   have ca := (chain_take_lt ep sq hl0).2
   have LD : Laid ring at_ ep sq l := laid_of fun j s h => hs j s (by have := ca j s h; simpa [chain] using this)
   rw [e, c, e2, LD.head ⟨hep, h1, by omega⟩ (hg l (List.mem_of_getElem? hl0))]
   intro h
   have : sq = sq + i + (L.drop i).length := h.2
   omega
  ·refine Whole.ne ?_ n
   rw [e, hz _ fun j hj => mod_ne hj (by omega)]
   exact derr_zeros.1

/-- A later number at the same place is not found. -/
theorem Done.later {ring : List Nat} {ep at_ sq u : Nat} {L : List (List Pd)} (h : Done ring ep at_ sq L u) (hL : L ≠ []) : Done ring ep at_ (sq + 1) [] 0 := by
 refine ⟨.nil, fun n W => ?_⟩
 obtain ⟨u', m, g, k⟩ := h.1.less (m := 0) (List.length_pos_iff.2 hL)
 obtain ⟨_, rfl⟩ := Got.same (n := 0) (by simp) rfl g .nil
 have h1 := k.first.2.2.1
 have h2 := W.first.2.2.1
 simp only [Nat.add_zero, List.length_nil] at h1 h2
 omega

/-- What was found, made into sectors again, are the ring's own. -/
theorem Got.own {ring : List Nat} {ep at_ sq u : Nat} {L : List (List Pd)} (hr : Bs ring) (hlen : 128 ≤ ring.length) (h : Got ring ep at_ sq L u) : u = (chain ep sq L).length ∧ (∀ l ∈ L, Good l) ∧ (L ≠ [] → ep ≤ 4611686018427387904) ∧ ∀ (j : Nat) (s : List Nat), (chain ep sq L)[j]? = some s → sec ring (at_ + j) = s := by
 induction h with
 | nil =>
   refine ⟨rfl, ?_, fun k => absurd rfl k, ?_⟩
   ·intro l hl; cases hl
   ·intro j s h; cases h
 | @more L u n g k ih =>
   obtain ⟨e, a, _, c⟩ := ih
   obtain ⟨LD, nk, n2, hp⟩ := k.laid hr hlen
   have G : Good (pts ring (at_ + u) n) := ⟨by rw [pts_len]; exact k.pos, by rw [pts_len]; exact n2, hp⟩
   rw [chain_snoc]
   refine ⟨by rw [List.length_append, secs_len, pts_len, e], fun l hl => ?_, fun _ => nk.1, fun j s h => ?_⟩
   ·rcases List.mem_append.1 hl with hl | hl
    ·exact a l hl
    ·rw [List.mem_singleton.1 hl]
     exact G
   ·rcases Nat.lt_or_ge j (chain ep sq L).length with d | d
    ·rw [List.getElem?_append_left d] at h
     exact c j s h
    ·rw [List.getElem?_append_right d] at h
     have := LD.secs h
     rw [show at_ + u + (j - (chain ep sq L).length) = at_ + j by omega] at this
     exact this

end Sc
namespace Sc

/-- A batch that is being read: what its commit should have, how many sectors, the last header, the patches. -/
structure Bt where
 ct : Int
 sm : Nat
 rd : Nat
 hd : Hd
 L : List Pd

def Bt.new : Bt := ⟨0, 0, 0, Hd.zero, []⟩

def ctTake (b : Bt) (s : List Nat) : Int := if b.L.length = 0 then (Hd.of s).ct else b.ct
def hdTake (ep sq : Nat) (b : Bt) (s : List Nat) : Option Bt :=
 if Hd.derr s = 0 ∧ (Hd.of s).ep = ep ∧ (Hd.of s).sq = sq ∧ (Hd.of s).ct = ctTake b s ∧ (Hd.of s).ix = b.L.length then some ⟨ctTake b s, more b.sm s, b.rd + 1, Hd.of s, b.L⟩ else none
def dtTake (b : Bt) (s : List Nat) : Option Bt := if uneE s b.hd.esc = 0 ∧ sum s = b.hd.sm then some ⟨b.ct, b.sm, b.rd + 1, b.hd, b.L ++ [⟨b.hd.mb.toNat, b.hd.rw'.toNat, uneV s b.hd.esc⟩]⟩ else none
def cmTake (ep sq : Nat) (b : Bt) (s : List Nat) : Option Bt := if Cm.derr s = 0 ∧ (Cm.of s).ep = ep ∧ (Cm.of s).sq = sq ∧ (Cm.of s).ct = b.ct ∧ (Cm.of s).sm = b.sm then some ⟨b.ct, b.sm, b.rd + 1, b.hd, b.L⟩ else none

/-- So much of a batch has been read, and it may be whole. -/
structure Mid (ring : List Nat) (p ep sq : Nat) (b : Bt) : Prop where
 L : b.L = pts ring p (b.rd / 2)
 sm : b.sm = sum (heads ring p ((b.rd + 1) / 2))
 ct0 : b.rd = 0 → b.ct = 0
 ct : 0 < b.rd → b.ct = (Hd.of (sec ring p)).ct ∧ (b.rd : Int) ≤ 2 * b.ct
 hds : ∀ i, 2 * i < b.rd → Hd.derr (sec ring (p + 2 * i)) = 0 ∧ (Hd.of (sec ring (p + 2 * i))).ep = ep ∧ (Hd.of (sec ring (p + 2 * i))).sq = sq ∧ (Hd.of (sec ring (p + 2 * i))).ix = i ∧ (Hd.of (sec ring (p + 2 * i))).ct = b.ct
 dts : ∀ i, 2 * i + 1 < b.rd → sum (sec ring (p + 2 * i + 1)) = (Hd.of (sec ring (p + 2 * i))).sm ∧ uneE (sec ring (p + 2 * i + 1)) (Hd.of (sec ring (p + 2 * i))).esc = 0
 hd : ∀ i, b.rd = 2 * i + 1 → b.hd = Hd.of (sec ring (p + 2 * i))

theorem Mid.new (ring : List Nat) (p ep sq : Nat) : Mid ring p ep sq Bt.new :=
 ⟨rfl, (more_nil 0).symm, fun _ => rfl, fun h => absurd h (by simp [Bt.new]), fun i h => absurd h (by simp [Bt.new]), fun i h => absurd h (by simp [Bt.new]), fun i h => by simp [Bt.new] at h⟩

theorem Whole.ct {ring : List Nat} {p room ep sq n : Nat} (h : Whole ring p room ep sq n) : (Hd.of (sec ring p)).ct = n := h.first.2.2.2.2.1

theorem Mid.len {ring : List Nat} {p ep sq : Nat} {b : Bt} (h : Mid ring p ep sq b) : b.L.length = b.rd / 2 := by rw [h.L, pts_len]

theorem Mid.head_no {ring : List Nat} {p ep sq : Nat} {b : Bt} (h : Mid ring p ep sq b) (h2 : b.rd % 2 = 0) (hn : ¬ (0 < b.rd ∧ (b.rd : Int) = 2 * b.ct)) (e : hdTake ep sq b (sec ring (p + b.rd)) = none) (room n : Nat) : ¬ Whole ring p room ep sq n := fun W => by
 obtain ⟨i, hi⟩ : ∃ i, b.rd = 2 * i := ⟨b.rd / 2, by omega⟩
 have hl := h.len
 have key : Hd.derr (sec ring (p + b.rd)) = 0 ∧ (Hd.of (sec ring (p + b.rd))).ep = ep ∧ (Hd.of (sec ring (p + b.rd))).sq = sq ∧ (Hd.of (sec ring (p + b.rd))).ct = ctTake b (sec ring (p + b.rd)) ∧ (Hd.of (sec ring (p + b.rd))).ix = b.L.length := by
  rw [hi]
  unfold ctTake
  by_cases c : i = 0
  ·subst c
   have F := W.each 0 W.pos
   rw [if_pos (by omega)]
   exact ⟨F.1, F.2.1, F.2.2.1, rfl, by rw [F.2.2.2.1]; omega⟩
  ·obtain ⟨h1, h3⟩ := h.ct (by omega)
   have h4 := W.ct
   have F := W.each i (by omega)
   rw [if_neg (by omega)]
   exact ⟨F.1, F.2.1, F.2.2.1, by rw [F.2.2.2.2.1, h1, h4], by rw [F.2.2.2.1]; omega⟩
 unfold hdTake at e
 rw [if_pos key] at e
 cases e

theorem Mid.head {ring : List Nat} {p ep sq : Nat} {b b' : Bt} (h : Mid ring p ep sq b) (h2 : b.rd % 2 = 0) (hn : ¬ (0 < b.rd ∧ (b.rd : Int) = 2 * b.ct)) (e : hdTake ep sq b (sec ring (p + b.rd)) = some b') : Mid ring p ep sq b' ∧ b'.rd = b.rd + 1 := by
 obtain ⟨i, hi⟩ : ∃ i, b.rd = 2 * i := ⟨b.rd / 2, by omega⟩
 have hl := h.len
 unfold hdTake at e
 by_cases key : Hd.derr (sec ring (p + b.rd)) = 0 ∧ (Hd.of (sec ring (p + b.rd))).ep = ep ∧ (Hd.of (sec ring (p + b.rd))).sq = sq ∧ (Hd.of (sec ring (p + b.rd))).ct = ctTake b (sec ring (p + b.rd)) ∧ (Hd.of (sec ring (p + b.rd))).ix = b.L.length
 case neg => rw [if_neg key] at e; cases e
 rw [if_pos key] at e
 obtain rfl := (Option.some.inj e).symm
 obtain ⟨k0, k1, k2, k3, k4⟩ := key
 have ok := (derr_hd k0).1
 have hc1 := ok.2.1
 have C : (b.L.length = 0 ∧ i = 0 ∧ ctTake b (sec ring (p + b.rd)) = (Hd.of (sec ring (p + b.rd))).ct) ∨ (0 < i ∧ ctTake b (sec ring (p + b.rd)) = b.ct) := by
  unfold ctTake
  by_cases c : i = 0
  ·exact .inl ⟨by omega, c, if_pos (by omega)⟩
  ·exact .inr ⟨by omega, if_neg (by omega)⟩
 refine ⟨⟨?_, ?_, fun k => absurd k (Nat.succ_ne_zero _), fun _ => ?_, fun j hj => ?_, fun j hj => ?_, fun j hj => ?_⟩, rfl⟩
 ·show b.L = _
  rw [h.L]
  show pts ring p (b.rd / 2) = pts ring p ((b.rd + 1) / 2)
  congr 1
  omega
 ·show more b.sm _ = _
  rw [h.sm]
  show more (more 0 _) _ = more 0 (heads ring p ((b.rd + 1 + 1) / 2))
  rw [more_more, show (b.rd + 1 + 1) / 2 = i + 1 by omega, heads_succ, show (b.rd + 1) / 2 = i by omega, hi]
 ·show ctTake b _ = _ ∧ ((b.rd + 1 : Nat) : Int) ≤ 2 * ctTake b _
  rcases C with ⟨_, c, e⟩ | ⟨c, e⟩
  ·subst c
   rw [e]
   refine ⟨by rw [hi]; rfl, ?_⟩
   omega
  ·rw [e]
   obtain ⟨q1, q2⟩ := h.ct (by omega)
   refine ⟨q1, ?_⟩
   omega
 ·have hj : 2 * j < b.rd + 1 := hj
  by_cases c : j = i
  ·rw [c, ← hi]
   exact ⟨k0, k1, k2, by rw [k4]; omega, k3⟩
  ·rcases C with ⟨_, d, e⟩ | ⟨_, e⟩
   ·omega
   ·have := h.hds j (by omega)
    rw [← e] at this
    exact this
 ·have hj : 2 * j + 1 < b.rd + 1 := hj
  exact h.dts j (by omega)
 ·have hj : b.rd + 1 = 2 * j + 1 := hj
  show Hd.of _ = _
  rw [show b.rd = 2 * j by omega]

theorem Mid.data_no {ring : List Nat} {p ep sq : Nat} {b : Bt} (h : Mid ring p ep sq b) (h2 : b.rd % 2 = 1) (e : dtTake b (sec ring (p + b.rd)) = none) (room n : Nat) : ¬ Whole ring p room ep sq n := fun W => by
 obtain ⟨i, hi⟩ : ∃ i, b.rd = 2 * i + 1 := ⟨b.rd / 2, by omega⟩
 obtain ⟨h1, h3⟩ := h.ct (by omega)
 have h4 := W.ct
 have F := W.each i (by omega)
 have hh := h.hd i hi
 unfold dtTake at e
 rw [if_pos (by rw [hh, hi, ← Nat.add_assoc]; exact ⟨F.2.2.2.2.2.2, F.2.2.2.2.2.1⟩)] at e
 cases e

theorem Mid.data {ring : List Nat} {p ep sq : Nat} {b b' : Bt} (h : Mid ring p ep sq b) (h2 : b.rd % 2 = 1) (e : dtTake b (sec ring (p + b.rd)) = some b') : Mid ring p ep sq b' ∧ b'.rd = b.rd + 1 := by
 obtain ⟨i, hi⟩ : ∃ i, b.rd = 2 * i + 1 := ⟨b.rd / 2, by omega⟩
 have hh := h.hd i hi
 obtain ⟨h1, h3⟩ := h.ct (by omega)
 unfold dtTake at e
 by_cases key : uneE (sec ring (p + b.rd)) b.hd.esc = 0 ∧ sum (sec ring (p + b.rd)) = b.hd.sm
 case neg => rw [if_neg key] at e; cases e
 rw [if_pos key] at e
 obtain rfl := (Option.some.inj e).symm
 obtain ⟨k0, k1⟩ := key
 rw [hh, hi, ← Nat.add_assoc] at k0 k1
 refine ⟨⟨?_, ?_, fun k => absurd k (Nat.succ_ne_zero _), fun _ => ⟨h1, ?_⟩, fun j hj => ?_, fun j hj => ?_, fun j hj => ?_⟩, rfl⟩
 ·show b.L ++ _ = pts ring p ((b.rd + 1) / 2)
  rw [show (b.rd + 1) / 2 = i + 1 by omega, pts_succ, h.L, show b.rd / 2 = i by omega, hh, hi, ← Nat.add_assoc]
  rfl
 ·show b.sm = sum (heads ring p ((b.rd + 1 + 1) / 2))
  rw [h.sm, show (b.rd + 1 + 1) / 2 = (b.rd + 1) / 2 by omega]
 ·show ((b.rd + 1 : Nat) : Int) ≤ 2 * b.ct
  omega
 ·have hj : 2 * j < b.rd + 1 := hj
  exact h.hds j (by omega)
 ·have hj : 2 * j + 1 < b.rd + 1 := hj
  by_cases c : j = i
  ·rw [c]
   exact ⟨k1, k0⟩
  ·exact h.dts j (by omega)
 ·have hj : b.rd + 1 = 2 * j + 1 := hj
  omega

theorem Mid.seal_no {ring : List Nat} {p ep sq : Nat} {b : Bt} (h : Mid ring p ep sq b) (h2 : 0 < b.rd) (h3 : (b.rd : Int) = 2 * b.ct) (e : cmTake ep sq b (sec ring (p + b.rd)) = none) (room n : Nat) : ¬ Whole ring p room ep sq n := fun W => by
 obtain ⟨q1, _⟩ := h.ct h2
 have h4 := W.ct
 have hr : b.rd = 2 * n := by omega
 obtain ⟨a0, a1, a2, a3, a4⟩ := W.ends
 unfold cmTake at e
 rw [if_pos (by rw [hr]; exact ⟨a0, a1, a2, by rw [a3, q1, h4], by rw [a4, h.sm, hr, show (2 * n + 1) / 2 = n by omega]⟩)] at e
 cases e

theorem Mid.sealed {ring : List Nat} {p ep sq : Nat} {b b' : Bt} (h : Mid ring p ep sq b) (h2 : 0 < b.rd) (h3 : (b.rd : Int) = 2 * b.ct) (e : cmTake ep sq b (sec ring (p + b.rd)) = some b') :
 ∃ n, b.rd = 2 * n ∧ b'.rd = 2 * n + 1 ∧ b'.L = pts ring p n ∧ ∀ room, 2 * n + 1 ≤ room → Whole ring p room ep sq n := by
 obtain ⟨q1, _⟩ := h.ct h2
 obtain ⟨n, hn⟩ : ∃ n, b.rd = 2 * n := ⟨b.rd / 2, by omega⟩
 have hct : b.ct = n := by omega
 unfold cmTake at e
 by_cases key : Cm.derr (sec ring (p + b.rd)) = 0 ∧ (Cm.of (sec ring (p + b.rd))).ep = ep ∧ (Cm.of (sec ring (p + b.rd))).sq = sq ∧ (Cm.of (sec ring (p + b.rd))).ct = b.ct ∧ (Cm.of (sec ring (p + b.rd))).sm = b.sm
 case neg => rw [if_neg key] at e; cases e
 rw [if_pos key] at e
 obtain rfl := (Option.some.inj e).symm
 obtain ⟨k0, k1, k2, k3, k4⟩ := key
 have F0 := h.hds 0 (by omega)
 have ok := (derr_hd F0.1).1
 refine ⟨n, hn, by show b.rd + 1 = _; omega, by show b.L = _; rw [h.L, show b.rd / 2 = n by omega], fun room hr => ⟨hr, ?_, by omega, fun i hi => ?_, ?_⟩⟩
 ·have := ok.1.2.2
  rw [F0.2.2.1] at this
  exact this
 ·obtain ⟨g0, g1, g2, g3, g4⟩ := h.hds i (by omega)
  obtain ⟨d0, d1⟩ := h.dts i (by omega)
  exact ⟨g0, g1, g2, g3, by rw [g4, hct], d0, d1⟩
 ·rw [hn] at k0 k1 k2 k3 k4
  exact ⟨k0, k1, k2, k3.trans hct, by rw [k4, h.sm, show (b.rd + 1) / 2 = n by omega]⟩

/-- The ring has come to its end. -/
theorem Mid.out {ring : List Nat} {p ep sq : Nat} {b : Bt} (h : Mid ring p ep sq b) (n : Nat) : ¬ Whole ring p b.rd ep sq n := fun W => by
 have h1 := W.room
 obtain ⟨q1, q2⟩ := h.ct (by omega)
 have h4 := W.ct
 omega

/-- What the next sector makes of it. -/
def step (ep sq : Nat) (b : Bt) (s : List Nat) : Option (Bool × Bt) :=
 if b.rd % 2 = 1 then (dtTake b s).map fun x => (false, x)
 else if 0 < b.rd ∧ (b.rd : Int) = 2 * b.ct then (cmTake ep sq b s).map fun x => (true, x)
 else (hdTake ep sq b s).map fun x => (false, x)

theorem Mid.fit {ring : List Nat} {p ep sq : Nat} {b : Bt} (h : Mid ring p ep sq b) (hr : Bs ring) : b.sm < 4294967296 ∧ 0 ≤ b.ct ∧ b.ct ≤ 1023 ∧ (b.rd % 2 = 1 → 0 ≤ b.hd.mb ∧ 0 ≤ b.hd.rw') := by
 refine ⟨by rw [h.sm]; exact sum_lt_of (heads_bs hr _ _), ?_⟩
 by_cases c : b.rd = 0
 ·have := h.ct0 c
  exact ⟨by omega, by omega, fun k => by omega⟩
 ·obtain ⟨h0, _, _, _, h4⟩ := h.hds 0 (by omega)
  have ok := (derr_hd h0).1
  refine ⟨by have := ok.2.1; omega, by have := ok.2.2.1; omega, fun k => ?_⟩
  obtain ⟨i, hi⟩ : ∃ i, b.rd = 2 * i + 1 := ⟨b.rd / 2, by omega⟩
  obtain ⟨g0, _⟩ := h.hds i (by omega)
  have ok := (derr_hd g0).1
  rw [h.hd i hi]
  exact ⟨ok.2.2.2.2.2.1, ok.2.2.2.2.2.2.2.1⟩

/-- What a scan has come to behind so many sectors. -/
structure Going (ring : List Nat) (ep at_ sq k : Nat) (L : List (List Pd)) (u : Nat) (b : Bt) : Prop where
 got : Got ring ep at_ sq L u
 mid : Mid ring (at_ + u) ep (sq + L.length) b
 pos : u + b.rd = k

theorem Going.start (ring : List Nat) (ep at_ sq : Nat) : Going ring ep at_ sq 0 [] 0 Bt.new := ⟨.nil, Mid.new _ _ _ _, rfl⟩

theorem Going.last {ring : List Nat} {ep at_ sq k : Nat} {L : List (List Pd)} {u : Nat} {b : Bt} (h : Going ring ep at_ sq k L u b) (hk : k = ring.length / 128) : Done ring ep at_ sq L u :=
 ⟨h.got, fun n => by rw [show ring.length / 128 - u = b.rd by have := h.pos; omega]; exact h.mid.out n⟩

theorem Going.none {ring : List Nat} {ep at_ sq k : Nat} {L : List (List Pd)} {u : Nat} {b : Bt} (h : Going ring ep at_ sq k L u b) (e : step ep (sq + L.length) b (sec ring (at_ + k)) = none) : Done ring ep at_ sq L u := by
 refine ⟨h.got, fun n => ?_⟩
 have hk2 := h.pos
 rw [← hk2, ← Nat.add_assoc] at e
 unfold step at e
 by_cases c1 : b.rd % 2 = 1
 ·rw [if_pos c1, Option.map_eq_none_iff] at e
  exact h.mid.data_no c1 e _ n
 ·rw [if_neg c1] at e
  by_cases c2 : 0 < b.rd ∧ (b.rd : Int) = 2 * b.ct
  ·rw [if_pos c2, Option.map_eq_none_iff] at e
   exact h.mid.seal_no c2.1 c2.2 e _ n
  ·rw [if_neg c2, Option.map_eq_none_iff] at e
   exact h.mid.head_no (by omega) c2 e _ n

theorem Going.open' {ring : List Nat} {ep at_ sq k : Nat} {L : List (List Pd)} {u : Nat} {b b' : Bt} (h : Going ring ep at_ sq k L u b) (e : step ep (sq + L.length) b (sec ring (at_ + k)) = some (false, b')) : Going ring ep at_ sq (k + 1) L u b' := by
 have hk2 := h.pos
 rw [← hk2, ← Nat.add_assoc] at e
 unfold step at e
 by_cases c1 : b.rd % 2 = 1
 ·rw [if_pos c1] at e
  obtain ⟨x, hx, e2⟩ := Option.map_eq_some_iff.1 e
  obtain rfl : x = b' := congrArg Prod.snd e2
  obtain ⟨m, r⟩ := h.mid.data c1 hx
  exact ⟨h.got, m, by omega⟩
 ·rw [if_neg c1] at e
  by_cases c2 : 0 < b.rd ∧ (b.rd : Int) = 2 * b.ct
  ·rw [if_pos c2] at e
   obtain ⟨x, _, e2⟩ := Option.map_eq_some_iff.1 e
   cases congrArg Prod.fst e2
  ·rw [if_neg c2] at e
   obtain ⟨x, hx, e2⟩ := Option.map_eq_some_iff.1 e
   obtain rfl : x = b' := congrArg Prod.snd e2
   obtain ⟨m, r⟩ := h.mid.head (by omega) c2 hx
   exact ⟨h.got, m, by omega⟩

theorem Going.sealed {ring : List Nat} {ep at_ sq k : Nat} {L : List (List Pd)} {u : Nat} {b b' : Bt} (h : Going ring ep at_ sq k L u b) (hk : k < ring.length / 128) (e : step ep (sq + L.length) b (sec ring (at_ + k)) = some (true, b')) :
 Going ring ep at_ sq (k + 1) (L ++ [b'.L]) (u + b'.rd) Bt.new := by
 have hk2 := h.pos
 rw [← hk2, ← Nat.add_assoc] at e
 unfold step at e
 by_cases c1 : b.rd % 2 = 1
 ·rw [if_pos c1] at e
  obtain ⟨x, _, e2⟩ := Option.map_eq_some_iff.1 e
  cases congrArg Prod.fst e2
 ·rw [if_neg c1] at e
  by_cases c2 : 0 < b.rd ∧ (b.rd : Int) = 2 * b.ct
  case neg =>
   rw [if_neg c2] at e
   obtain ⟨x, _, e2⟩ := Option.map_eq_some_iff.1 e
   cases congrArg Prod.fst e2
  rw [if_pos c2] at e
  obtain ⟨x, hx, e2⟩ := Option.map_eq_some_iff.1 e
  obtain rfl : x = b' := congrArg Prod.snd e2
  obtain ⟨n, e1, e2, e3, W⟩ := h.mid.sealed c2.1 c2.2 hx
  refine ⟨by rw [e2, e3]; exact .more h.got (W _ (by omega)), Mid.new _ _ _ _, by show _ + 0 = _; omega⟩

/-- What was found, and the batch that is read. -/
structure St where
 L : List (List Pd)
 u : Nat
 b : Bt

def St.new : St := ⟨[], 0, Bt.new⟩

def St.next (ep sq : Nat) (st : St) (s : List Nat) : Option St := (Sc.step ep (sq + st.L.length) st.b s).map fun x => if x.1 = true then ⟨st.L ++ [x.2.L], st.u + x.2.rd, Bt.new⟩ else ⟨st.L, st.u, x.2⟩

def run (ep sq : Nat) (ring : List Nat) (ps : List Nat) : Option St := ps.foldl (fun o p => o.bind fun st => st.next ep sq (sec ring p)) (some St.new)

theorem run_snoc (ep sq : Nat) (ring ps : List Nat) (p : Nat) : run ep sq ring (ps ++ [p]) = (run ep sq ring ps).bind fun st => st.next ep sq (sec ring p) := by simp [run]

/-- Its numbers are small. -/
structure Snd (st : St) (k : Nat) : Prop where
 sm : st.b.sm < 4294967296
 ct0 : 0 ≤ st.b.ct
 ct1 : st.b.ct ≤ 1023
 rd : st.u + st.b.rd ≤ k
 len : st.b.L.length ≤ st.b.rd
 Ls : st.L.length ≤ k
 mb : 0 ≤ st.b.hd.mb
 rw' : 0 ≤ st.b.hd.rw'

theorem Snd.new : Snd St.new 0 := ⟨by decide, by decide, by decide, by decide, by decide, by decide, by decide, by decide⟩

theorem Snd.next {ep sq k : Nat} {st st' : St} {s : List Nat} (h : Snd st k) (hs : Bs s) (e : st.next ep sq s = some st') : Snd st' (k + 1) := by
 obtain ⟨L, u, b⟩ := st
 have h1 := h.sm
 have h2 := h.ct0
 have h3 := h.ct1
 have h4 := h.rd
 have h5 := h.len
 have h6 := h.Ls
 have h7 := h.mb
 have h8 := h.rw'
 dsimp only at h1 h2 h3 h4 h5 h6 h7 h8
 unfold St.next at e
 obtain ⟨x, hx, rfl⟩ := Option.map_eq_some_iff.1 e
 clear e
 unfold Sc.step at hx
 dsimp only at hx
 by_cases c1 : b.rd % 2 = 1
 ·rw [if_pos c1] at hx
  obtain ⟨b', hb, rfl⟩ := Option.map_eq_some_iff.1 hx
  unfold dtTake at hb
  split at hb
  ·obtain rfl := (Option.some.inj hb).symm
   exact ⟨h1, h2, h3, by show u + (b.rd + 1) ≤ _; omega, by show (b.L ++ _).length ≤ b.rd + 1; rw [List.length_append, List.length_singleton]; omega, by show L.length ≤ _; omega, h7, h8⟩
  ·cases hb
 ·rw [if_neg c1] at hx
  by_cases c2 : 0 < b.rd ∧ (b.rd : Int) = 2 * b.ct
  ·rw [if_pos c2] at hx
   obtain ⟨b', hb, rfl⟩ := Option.map_eq_some_iff.1 hx
   unfold cmTake at hb
   split at hb
   ·obtain rfl := (Option.some.inj hb).symm
    exact ⟨by show 0 < 4294967296; omega, by show (0 : Int) ≤ 0; omega, by show (0 : Int) ≤ 1023; omega, by show u + (b.rd + 1) + 0 ≤ _; omega, by show 0 ≤ 0; omega, by show (L ++ [_]).length ≤ _; rw [List.length_append, List.length_singleton]; omega, by show (0 : Int) ≤ 0; omega, by show (0 : Int) ≤ 0; omega⟩
   ·cases hb
  ·rw [if_neg c2] at hx
   obtain ⟨b', hb, rfl⟩ := Option.map_eq_some_iff.1 hx
   unfold hdTake at hb
   split at hb
   ·rename_i key
    obtain rfl := (Option.some.inj hb).symm
    have ok := (derr_hd key.1).1
    have hct : 0 ≤ ctTake b s ∧ ctTake b s ≤ 1023 := by
     rw [← key.2.2.2.1]
     exact ⟨by have := ok.2.1; omega, ok.2.2.1⟩
    exact ⟨more_lt h1 hs, hct.1, hct.2, by show u + (b.rd + 1) ≤ _; omega, by show b.L.length ≤ b.rd + 1; omega, by show L.length ≤ _; omega, ok.2.2.2.2.2.1, ok.2.2.2.2.2.2.2.1⟩
   ·cases hb

theorem run_snd {ep sq : Nat} {ring : List Nat} (hr : Bs ring) (n : Nat) : ∀ (ps : List Nat), ps.length = n → ∀ (st : St), run ep sq ring ps = some st → Snd st n := by
 induction n with
 | zero =>
   intro ps hl st e
   obtain rfl := List.eq_nil_of_length_eq_zero hl
   obtain rfl := (Option.some.inj e).symm
   exact Snd.new
 | succ n ih =>
   intro ps hl st e
   obtain ⟨qs, p, rfl⟩ : ∃ qs p, ps = qs ++ [p] := ⟨ps.dropLast, ps.getLast (by intro e; subst e; cases hl), (List.dropLast_concat_getLast _).symm⟩
   rw [run_snoc] at e
   obtain ⟨st0, h0, h1⟩ := Option.bind_eq_some_iff.1 e
   exact (ih qs (by rw [List.length_append, List.length_singleton] at hl; omega) st0 h0).next (sec_bs hr p) h1

/-- The places that have come. -/
def come (tl k : Nat) : List Nat := (List.range k).map (tl + ·)

theorem come_succ (tl k : Nat) : come tl (k + 1) = come tl k ++ [tl + k] := by simp [come, List.range_succ]
theorem come_len (tl k : Nat) : (come tl k).length = k := by simp [come]

theorem run_going {ep sq tl : Nat} {ring : List Nat} : ∀ (k : Nat), k ≤ ring.length / 128 → ∀ (st : St), run ep sq ring (come tl k) = some st → Going ring ep tl sq k st.L st.u st.b
 | 0, _, st, e => by
   obtain rfl := (Option.some.inj e).symm
   exact Going.start _ _ _ _
 | k + 1, hk, st, e => by
   rw [come_succ, run_snoc] at e
   obtain ⟨st0, h0, h1⟩ := Option.bind_eq_some_iff.1 e
   have G := run_going k (by omega) st0 h0
   unfold St.next at h1
   obtain ⟨⟨t, b'⟩, hx, rfl⟩ := Option.map_eq_some_iff.1 h1
   cases t
   ·exact G.open' hx
   ·exact G.sealed (by omega) hx

theorem run_last {ep sq tl : Nat} {ring : List Nat} {st : St} (e : run ep sq ring (come tl (ring.length / 128)) = some st) : Done ring ep tl sq st.L st.u := (run_going _ (Nat.le_refl _) st e).last rfl

theorem run_stop {ep sq tl k : Nat} {ring : List Nat} {st : St} (hk : k ≤ ring.length / 128) (e : run ep sq ring (come tl k) = some st) (h : st.next ep sq (sec ring (tl + k)) = none) : Done ring ep tl sq st.L st.u :=
 (run_going k hk st e).none (by unfold St.next at h; rw [Option.map_eq_none_iff] at h; exact h)

end Sc
end Go.Proofs.YtkafkdlgflkjgaaGreat
