/-
  WalRises' walk: what is found again. By an AI agent.
-/
import Derived.Test.YtkafkdlgflkjgaaGreatBWlLawC
import Derived.Test.YtkafkdlgflkjgaaGreatBWlOpen
import Derived.Test.YtkafkdlgflkjgaaGreatBWlKnR
import Derived.Test.YtkafkdlgflkjgaaGreatBWlMuch
import Derived.Test.YtkafkdlgflkjgaaGreatBScChk
import Derived.Deep.QuietTactic
import Derived.BigQuiet
namespace Go.Proofs.YtkafkdlgflkjgaaGreat
open Go.RowKit Go.Maps Crc

namespace Wl

theorem Keeps.read {y : Bay} {s : Int} {d : Dk} {J : Jn} {L : List (List Pd)} {G : Option (List Pd)} (u : y.Up s d) (h : Keeps d J L G) (hlast : 2 + J.S ≤ d.last.length) :
 (rd s (y, 0) 1).2 = 0 ∧ rdV s (y, 0) 1 = Ck.enc ⟨J.ep, J.next - L.length, (J.t : Nat)⟩ ∧ (rds s (rd s (y, 0) 1) J.S).1.2 = 0 ∧ (rds s (rd s (y, 0) 1) J.S).2 = ringB J.S (fun p => d.now (2 + p)) ∧ y.Went (rds s (rd s (y, 0) 1) J.S).1.1 s d (1 + J.S) 0 0 := by
 obtain ⟨x1, x2, x3⟩ := rd_up u (p := 1) (by omega)
 rw [show ((1 : Nat) : Int) = 1 from rfl] at x1 x2 x3
 obtain ⟨y1, y2, y3⟩ := rds_up x2.up J.S hlast
 have hr : rd s (y, 0) 1 = ((rd s (y, 0) 1).1, 0) := Prod.ext rfl x1
 rw [← hr] at y1 y2 y3
 exact ⟨x1, by rw [x3]; exact h.ck, y1, y3, by simpa using x2.trans y2⟩

end Wl

/-- What Open gives of a journal's disk. -/
def Again (w0 : World) (b : Nat) (y : Bay) (s : Int) (d : Dk) (J : Wl.Jn) (L : List (List Pd)) (ts : List Thing) (e : Ending) (w' : World) : Prop :=
 ∃ W D R tv T F' y', found T = L ∧ y.Went y' s d (1 + J.S) 0 0 ∧ e = .returned (.tuple #[.pointer (some ⟨W, 0, none⟩), tv, .int .u16 0]) ∧
   Hid (Side w0 w' (jts b W D R (Wl.begun s J.S ⟨J.ep, J.next - L.length, (J.t : Nat)⟩ J.u J.next) (.slice none 0 0) y' F' (wideT 2 92 tv (txSlots (J.next - L.length) T) :: poolWT 3 105 (listsOf T) :: poolT (dataOf T) :: ts)))

theorem opnd_keeps {w0 w' : World} {b : Nat} {y : Bay} {s : Int} {d : Dk} {J : Wl.Jn} {L : List (List Pd)} {G : Option (List Pd)} {ts : List Thing} {e : Ending} (hO : Opnd w0 b y s (J.S : Int) ts e w') (u : y.Up s d) (h : Wl.Keeps d J L G) (n5 : 5 ≤ J.S) (n2 : J.S ≤ 2048) (ht : J.t < J.S) (hlast : 2 + J.S ≤ d.last.length) (hu : J.u ≤ J.S) (hn : numsOk J.ep J.next) : Again w0 b y s d J L ts e w' := by
 obtain ⟨r1, r2, r3, r4, r5⟩ := h.read u hlast
 have hck : Ck.derr (Ck.enc ⟨J.ep, J.next - L.length, (J.t : Nat)⟩) = 0 ∧ Ck.dval (Ck.enc ⟨J.ep, J.next - L.length, (J.t : Nat)⟩) = ⟨J.ep, J.next - L.length, (J.t : Nat)⟩ := by
  unfold Ck.enc
  rw [if_pos h.cok]
  exact Ck.back _ h.cok
 rcases hO with ⟨hno, _⟩ | ⟨n, hn', _, _, ⟨c1, _⟩ | ⟨_, c2, _⟩ | ⟨_, c3, c4, ⟨c5, _⟩ | ⟨_, W, D, R, tv, T, u', F', hD, he, hS⟩⟩⟩
 ·exact absurd ⟨by omega, by omega⟩ hno
 ·exact absurd r1 c1
 ·rw [r2, hck.1, hck.2] at c2
  rcases c2 with q | q
  ·exact absurd rfl q
  ·have q : (n : Int) ≤ (J.t : Nat) := q
   omega
 ·obtain rfl : J.S = n := by omega
  exact absurd r3 c5
 ·obtain rfl : J.S = n := by omega
  rw [r2, hck.2, r4] at hD
  rw [r2, hck.2] at hS
  have hD : Sc.Done (Wl.ringB J.S fun p => d.now (2 + p)) J.ep J.t (J.next - L.length) (found T) u' := hD
  obtain ⟨q1, q2⟩ := (h.done n5 hu hn).uniq hD
  subst q2
  have hT : T.length = L.length := by rw [q1, found_len]
  refine ⟨W, D, R, tv, T, F', _, q1.symm, r5, he, ?_⟩
  have e2 : J.next - L.length + T.length = J.next := by have := h.nx; omega
  have hS : Hid (Side w0 w' (jts b W D R (Wl.begun s J.S ⟨J.ep, J.next - L.length, (J.t : Nat)⟩ J.u (J.next - L.length + T.length)) (.slice none 0 0) (Wl.rds s (Wl.rd s (y, 0) 1) J.S).1.1 F' (wideT 2 92 tv (txSlots (J.next - L.length) T) :: poolWT 3 105 (listsOf T) :: poolT (dataOf T) :: ts))) := hS
  rw [e2] at hS
  exact hS

/-- How a new journal stands behind so many ops. -/
def RSt (es : List WOpD) (n j : Nat) (y : Bay) (J : Wl.Jn) : Prop := ∃ d B Lw L G, CSt es n j y J d B Lw ∧ Wl.Keeps d J L G

theorem RSt.begin {es : List WOpD} {n : Nat} (n5 : 5 ≤ n) (n2 : n ≤ 2048) : RSt es n 0 (Wl.bgBay n) (Wl.bgJn n) := by
 obtain ⟨d, ok, k⟩ := Wl.bg_keeps n5 n2
 exact ⟨d, 3, 2050, [], none, ⟨ok, Nat.le_refl _, (Wl.fmtIo_low (Bay.new_low _) 0 n 1).mono (by omega), by omega, rfl, rfl⟩, k⟩

section
variable {es : List WOpD} {n j : Nat} {y : Bay} {J : Wl.Jn} {a : WOpD}

theorem RSt.call (h : RSt es n j y J) (hj : j ≤ 100000) (ha : es[j]? = some a) (hb : ∀ p ∈ a.pts, By p.d) : RSt es n (j + 1) (Wl.callJ y J a).bay (Wl.callJ y J a).jn ∧ (Wl.callJ y J a).jn.next = J.next + (if a.kind = 2 ∧ (Wl.callJ y J a).err = 0 then 1 else 0) := by
 obtain ⟨d, B, Lw, L, G, s, k⟩ := h
 obtain ⟨d', B', L', s'⟩ := s.call ha hb
 obtain ⟨x, u, k', hn, hs⟩ := k.call (a := a) s.ok (by have := s.b; omega) hb
 have u' := s'.ok.up
 rw [hs] at u'
 have e : d' = x := by have := u'.dev.symm.trans u.dev; simpa using this
 subst e
 exact ⟨⟨d', B', L', _, _, s', k'⟩, hn⟩

theorem RSt.low (h : RSt es n j y J) (hw : wopW es es.length ≤ 5000) : y.Low 20000 := by
 obtain ⟨d, B, Lw, L, G, s, k⟩ := h
 exact s.low.mono (s.bound hw)

theorem RSt.fit (h : RSt es n j y J) (hj : j ≤ 100000) : J.Fit ∧ J.slot = 0 ∧ J.S = n ∧ J.next ≤ 200000 := by
 obtain ⟨d, B, Lw, L, G, s, k⟩ := h
 exact ⟨s.fit hj, s.slot, s.size, by have := s.ok.next; have := s.b; omega⟩

/-- Opened again. -/
theorem RSt.open {w0 w' : World} {b : Nat} {ts : List Thing} {e : Ending} (h : RSt es n j y J) (hj : j ≤ 100000) (hO : Opnd w0 b y 0 (n : Int) ts e w') : ∃ d L, Again w0 b y 0 d J L ts e w' ∧ J.next - L.length + L.length = J.next ∧ J.next ≤ 200000 := by
 obtain ⟨d, B, Lw, L, G, s, k⟩ := h
 have hz := s.size
 rw [← hz] at hO
 have hu := s.ok.up
 rw [s.slot] at hu
 have h1 := s.ok.next
 have h2 := s.ok.ep
 have h3 := s.b
 have h4 := k.nx
 exact ⟨d, L, opnd_keeps hO hu k s.ok.lo s.ok.hi s.ok.tail s.ok.size s.ok.used ⟨by omega, by omega, by omega⟩, by omega, by omega⟩

end

end Go.Proofs.YtkafkdlgflkjgaaGreat
