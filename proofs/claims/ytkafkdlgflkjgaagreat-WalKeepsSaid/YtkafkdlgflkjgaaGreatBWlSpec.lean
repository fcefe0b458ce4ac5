/-
  What a journal does over a bay, in numbers. No function of the program is named here. By an AI agent.
-/
import Derived.Test.YtkafkdlgflkjgaaGreatBG
import Derived.Test.YtkafkdlgflkjgaaGreatBScSpec
namespace Go.Proofs.YtkafkdlgflkjgaaGreat
open Crc

/-- A disk that answers is in a slot, and the power is on. -/
structure Bay.Up (y : Bay) (s : Int) (d : Dk) : Prop where
 dev : y.dev s = some ⟨d, none⟩
 bad : d.bad = false
 dark : y.dark = false
 trip : y.trip = none

/-- So many operations were done, on the disk of one slot alone. -/
structure Bay.Went (y y' : Bay) (s : Int) (d' : Dk) (nr nw nf : Nat) : Prop where
 up : y'.Up s d'
 reads : y'.reads = y.reads + nr
 writes : y'.writes = y.writes + nw
 flushes : y'.flushes = y.flushes + nf
 other : ∀ r, r ≠ s → y'.dev r = y.dev r
 len : y'.slots.length = y.slots.length
 come : (y'.slots[s.toNat]?).bind (·.coming) = (y.slots[s.toNat]?).bind (·.coming)

namespace Bay

theorem Up.is {y : Bay} {s : Int} {d : Dk} (h : y.Up s d) : y.is s = true := dev_is h.dev

theorem Up.start {y : Bay} {s : Int} {d : Dk} (h : y.Up s d) (what : Nat) : y.startErr s = 0 ∧ y.start s what = (y.counted what).setIn s ⟨d, none⟩ ∧ y.asked s = ⟨d, none⟩ := by
 have h0 : ¬ y.is s = false := by rw [h.is]; simp
 have h1 : ¬ y.dark = true := by rw [h.dark]; simp
 have h2 : ¬ y.trip = some 0 := by rw [h.trip]; simp
 unfold startErr Bay.start asked
 rw [if_neg h0, if_neg h0, if_neg h1, if_neg h1, if_neg h2, if_neg h2, h.dev]
 exact ⟨rfl, rfl, rfl⟩

theorem Went.refl {y : Bay} {s : Int} {d : Dk} (h : y.Up s d) : y.Went y s d 0 0 0 := ⟨h, rfl, rfl, rfl, fun _ _ => rfl, rfl, rfl⟩

theorem Went.trans {y y1 y2 : Bay} {s : Int} {d1 d2 : Dk} {a b c a' b' c' : Nat} (h : y.Went y1 s d1 a b c) (k : y1.Went y2 s d2 a' b' c') : y.Went y2 s d2 (a + a') (b + b') (c + c') :=
 ⟨k.up, by rw [k.reads, h.reads]; omega, by rw [k.writes, h.writes]; omega, by rw [k.flushes, h.flushes]; omega, fun r hr => (k.other r hr).trans (h.other r hr), k.len.trans h.len, k.come.trans h.come⟩

theorem Up.set {y : Bay} {s : Int} {d d' : Dk} (h : y.Up s d) (hb : d'.bad = false) (what : Nat) : y.Went ((y.counted what).setIn s ⟨d', none⟩) s d' (if what = 1 then 1 else 0) (if what = 2 then 1 else 0) (if what = 3 then 1 else 0) := by
 have hi : (y.counted what).is s = true := h.is
 refine ⟨⟨setIn_same hi, hb, h.dark, ?_⟩, rfl, rfl, rfl, fun r hr => setIn_other hi (Ne.symm hr), turn_len _ _ _, ?_⟩
 ·show y.trip.map (· - 1) = none
  rw [h.trip]
  rfl
 ·show ((y.slots.modify s.toNat (fun x => { x with inn := some (⟨d', none⟩ : Dev) }))[s.toNat]?).bind (·.coming) = _
  rw [List.getElem?_modify]
  cases y.slots[s.toNat]? with
  | none => rfl
  | some x => simp

theorem Up.write {y : Bay} {s : Int} {d : Dk} (h : y.Up s d) {p : Nat} {x : List Nat} (hp : p < d.last.length) (hx : x.length = 128) : y.writeErr s p x = 0 ∧ y.Went (y.write s p x) s { d with cache := d.cache ++ [(p, x)] } 0 1 0 := by
 obtain ⟨h0, _, ha⟩ := h.start 2
 obtain ⟨w1, w2⟩ := Dk.write_ok h.bad hp hx
 unfold writeErr Bay.write
 rw [if_pos h0, if_pos h0, ha]
 refine ⟨w1, ?_⟩
 show y.Went ((y.counted 2).setIn s ⟨d.write p x, none⟩) s _ 0 1 0
 rw [w2]
 exact h.set (d' := { d with cache := d.cache ++ [(p, x)] }) h.bad 2

theorem Up.read {y : Bay} {s : Int} {d : Dk} (h : y.Up s d) {p : Nat} (hp : p < d.last.length) : y.readErr s p = 0 ∧ y.readVal s p = d.now p ∧ y.Went (y.read s) s d 1 0 0 := by
 obtain ⟨h0, h1, ha⟩ := h.start 1
 obtain ⟨w1, w2⟩ := Dk.read_ok h.bad hp
 unfold readErr readVal Bay.read
 rw [if_pos h0, if_pos h0, ha, h1]
 exact ⟨w1, w2, h.set h.bad 1⟩

theorem Up.flush {y : Bay} {s : Int} {d : Dk} (h : y.Up s d) : y.flushErr s = 0 ∧ y.Went (y.flush s) s { d with last := d.cache.foldl Dk.lay d.last, cache := [] } 0 0 1 := by
 obtain ⟨h0, _, ha⟩ := h.start 3
 obtain ⟨w1, w2⟩ := Dk.flush_ok h.bad
 unfold flushErr Bay.flush
 rw [if_pos h0, if_pos h0, ha]
 refine ⟨w1, ?_⟩
 show y.Went ((y.counted 3).setIn s ⟨d.flush, none⟩) s _ 0 0 1
 rw [w2]
 exact h.set (d' := { d with last := d.cache.foldl Dk.lay d.last, cache := [] }) h.bad 3

end Bay

namespace Wl

/-- A bay, and the error by which a journal is broken. -/
abbrev Io := Bay × Nat

def wr (s : Int) (st : Io) (at_ : Int) (x : List Nat) : Io := if st.2 = 0 then (st.1.write s at_ x, st.1.writeErr s at_ x) else st
def fl (s : Int) (st : Io) : Io := if st.2 = 0 then (st.1.flush s, st.1.flushErr s) else st
def rd (s : Int) (st : Io) (at_ : Int) : Io := if st.2 = 0 then (st.1.read s, st.1.readErr s at_) else st
def rdV (s : Int) (st : Io) (at_ : Int) : List Nat := if st.2 = 0 then st.1.readVal s at_ else []

/-- Writes one behind the other. -/
def wrs (s : Int) (st : Io) (ws : List (Nat × List Nat)) : Io := ws.foldl (fun st w => wr s st (w.1 : Int) w.2) st

/-- The first places of the ring are read. -/
def rds (s : Int) (st : Io) : Nat → Io × List Nat
 | 0 => (st, [])
 | k + 1 => (rd s (rds s st k).1 ((2 + k : Nat) : Int), (rds s st k).2 ++ rdV s (rds s st k).1 ((2 + k : Nat) : Int))

theorem wrs_snoc (s : Int) (st : Io) (ws : List (Nat × List Nat)) (w : Nat × List Nat) : wrs s st (ws ++ [w]) = wr s (wrs s st ws) (w.1 : Int) w.2 := by simp [wrs]

theorem wr_low {k : Nat} {s : Int} {st : Io} (h : st.1.Low k) (at_ : Int) (x : List Nat) : (wr s st at_ x).1.Low (k + 1) := by
 unfold wr
 split
 ·exact h.write s at_ x
 ·exact h.mono (Nat.le_succ _)

theorem fl_low {k : Nat} {s : Int} {st : Io} (h : st.1.Low k) : (fl s st).1.Low (k + 1) := by
 unfold fl
 split
 ·exact h.flush s
 ·exact h.mono (Nat.le_succ _)

theorem rd_low {k : Nat} {s : Int} {st : Io} (h : st.1.Low k) (at_ : Int) : (rd s st at_).1.Low (k + 1) := by
 unfold rd
 split
 ·exact h.start s 1
 ·exact h.mono (Nat.le_succ _)

theorem wrs_low {s : Int} : ∀ (ws : List (Nat × List Nat)) {k : Nat} {st : Io}, st.1.Low k → (wrs s st ws).1.Low (k + ws.length)
 | [], _, _, h => h
 | w :: ws, k, st, h => by
   have := wrs_low (s := s) ws (st := wr s st (w.1 : Int) w.2) (wr_low h (w.1 : Int) w.2)
   rw [List.length_cons, show k + (ws.length + 1) = k + 1 + ws.length by omega]
   exact this

theorem rds_low {s : Int} {k : Nat} {st : Io} (h : st.1.Low k) : ∀ n, (rds s st n).1.1.Low (k + n)
 | 0 => h
 | n + 1 => rd_low (rds_low h n) _

theorem wrs_up {s : Int} : ∀ (ws : List (Nat × List Nat)) {y : Bay} {d : Dk}, y.Up s d → (∀ w ∈ ws, w.1 < d.last.length ∧ w.2.length = 128) → (wrs s (y, 0) ws).2 = 0 ∧ y.Went (wrs s (y, 0) ws).1 s { d with cache := d.cache ++ ws } 0 ws.length 0
 | [], y, d, h, _ => ⟨rfl, by rw [List.append_nil]; exact .refl h⟩
 | w :: ws, y, d, h, hw => by
   obtain ⟨h1, h2⟩ := h.write (hw w List.mem_cons_self).1 (hw w List.mem_cons_self).2
   have e : wr s (y, 0) (w.1 : Int) w.2 = (y.write s w.1 w.2, 0) := by unfold wr; rw [if_pos rfl, h1]
   obtain ⟨h3, h4⟩ := wrs_up ws (d := { d with cache := d.cache ++ [(w.1, w.2)] }) h2.up (fun v hv => hw v (List.mem_cons_of_mem _ hv))
   have e2 : wrs s (y, 0) (w :: ws) = wrs s (y.write s w.1 w.2, 0) ws := by unfold wrs; rw [List.foldl_cons, e]
   rw [e2]
   refine ⟨h3, ?_⟩
   have := h2.trans h4
   rw [List.append_assoc] at this
   rw [List.length_cons, Nat.add_comm ws.length 1]
   exact this

theorem fl_up {s : Int} {y : Bay} {d : Dk} (h : y.Up s d) : (fl s (y, 0)).2 = 0 ∧ y.Went (fl s (y, 0)).1 s { d with last := d.cache.foldl Dk.lay d.last, cache := [] } 0 0 1 := by
 obtain ⟨h1, h2⟩ := h.flush
 unfold fl
 rw [if_pos rfl]
 exact ⟨h1, h2⟩

theorem rd_up {s : Int} {y : Bay} {d : Dk} (h : y.Up s d) {p : Nat} (hp : p < d.last.length) : (rd s (y, 0) p).2 = 0 ∧ y.Went (rd s (y, 0) p).1 s d 1 0 0 ∧ rdV s (y, 0) p = d.now p := by
 obtain ⟨h1, h2, h3⟩ := h.read hp
 unfold rd rdV
 rw [if_pos rfl, if_pos rfl]
 exact ⟨h1, h3, h2⟩

/-- The ring's bytes on a disk. -/
def ringB (S : Nat) (g : Nat → List Nat) : List Nat := (List.range S).flatMap g

theorem ringB_succ (S : Nat) (g : Nat → List Nat) : ringB (S + 1) g = ringB S g ++ g S := by simp [ringB, List.range_succ]

theorem rds_up {s : Int} {y : Bay} {d : Dk} (h : y.Up s d) : ∀ (n : Nat), 2 + n ≤ d.last.length → (rds s (y, 0) n).1.2 = 0 ∧ y.Went (rds s (y, 0) n).1.1 s d n 0 0 ∧ (rds s (y, 0) n).2 = ringB n (fun p => d.now (2 + p))
 | 0, _ => ⟨rfl, .refl h, rfl⟩
 | n + 1, hn => by
   obtain ⟨h1, h2, h3⟩ := rds_up h n (by omega)
   obtain ⟨q1, q2, q3⟩ := rd_up h2.up (p := 2 + n) (by omega)
   have e : (rds s (y, 0) n).1 = ((rds s (y, 0) n).1.1, 0) := Prod.ext rfl h1
   show (rd s (rds s (y, 0) n).1 ((2 + n : Nat) : Int)).2 = 0 ∧ y.Went (rd s (rds s (y, 0) n).1 ((2 + n : Nat) : Int)).1 s d (n + 1) 0 0 ∧ (rds s (y, 0) n).2 ++ rdV s (rds s (y, 0) n).1 ((2 + n : Nat) : Int) = _
   rw [ringB_succ, ← h3, e]
   exact ⟨q1, h2.trans q2, by rw [q3]⟩

theorem ringB_len {S : Nat} {g : Nat → List Nat} (h : ∀ p, p < S → (g p).length = 128) : (ringB S g).length = 128 * S := by
 induction S with
 | zero => rfl
 | succ S ih => rw [ringB_succ, List.length_append, ih (fun p hp => h p (by omega)), h S (by omega)]; omega

theorem ringB_bs {S : Nat} {g : Nat → List Nat} (h : ∀ p, p < S → Bs (g p)) : Bs (ringB S g) := fun x hx => by
 obtain ⟨p, hp, hx⟩ := List.mem_flatMap.1 hx
 exact h p (List.mem_range.1 hp) x hx

theorem cut_append_left {a b : List Nat} {i n : Nat} (h : i + n ≤ a.length) : cut (a ++ b) i n = cut a i n := by
 unfold cut
 rw [List.drop_append_of_le_length (by omega), List.take_append_of_le_length (by rw [List.length_drop]; omega)]

theorem ringB_cut : ∀ {S : Nat} {g : Nat → List Nat}, (∀ p, p < S → (g p).length = 128) → ∀ p, p < S → cut (ringB S g) (128 * p) 128 = g p
 | 0, _, _, p, hp => absurd hp (by omega)
 | S + 1, g, h, p, hp => by
   have hl := ringB_len (S := S) (g := g) (fun q hq => h q (by omega))
   rw [ringB_succ]
   by_cases e : p = S
   ·subst e
    unfold cut
    rw [← hl, List.drop_left, ← h p (by omega), List.take_length]
   ·rw [cut_append_left (by omega), ringB_cut (fun q hq => h q (by omega)) p (by omega)]

theorem ringB_sec {S : Nat} {g : Nat → List Nat} (h : ∀ p, p < S → (g p).length = 128) (hS : 0 < S) (p : Nat) : Sc.sec (ringB S g) p = g (p % S) := by
 have hl := ringB_len h
 have hd : (ringB S g).length / 128 = S := by omega
 unfold Sc.sec
 rw [hd]
 exact ringB_cut h _ (Nat.mod_lt _ hS)

end Wl
end Go.Proofs.YtkafkdlgflkjgaaGreat

/-
  What a journal is, and what its calls do, in numbers. No function of the program is named here. By an AI agent.
-/
namespace Go.Proofs.YtkafkdlgflkjgaaGreat
open Crc
namespace Wl

/-- A journal: its slot, its ring, the epoch, the next number, what is logged, and the error by which it is broken. -/
structure Jn where
 slot : Int
 S : Nat
 t : Nat
 u : Nat
 ep : Nat
 next : Nat
 sure : Bool
 commit : Option (List Nat)
 cost : Nat
 br : Nat

namespace Jn

def place (J : Jn) (i : Nat) : Nat := 2 + (J.t + (J.u + i)) % J.S

/-- Sectors, and where they go. -/
def puts (J : Jn) (l : List (List Nat)) : List (Nat × List Nat) := l.mapIdx fun i x => (J.place i, x)

def head (J : Jn) : Nat := (J.t + J.u) % J.S

def broke (J : Jn) (e : Nat) : Jn := { J with br := e }

/-- A journal as it can be. -/
structure Fit (J : Jn) : Prop where
 lo : 5 ≤ J.S
 hi : J.S ≤ 2048
 tail : J.t < J.S
 used : J.u ≤ J.S
 ep : J.ep < 9223372036854775808
 next : J.next < 9223372036854775808
 com : ∀ c, J.commit = some c → c.length = 128 ∧ Bs c ∧ 1 ≤ J.cost ∧ J.u + J.cost ≤ J.S
 cost : J.cost ≤ 2047

end Jn

/-- What a call comes to: its error, the bay and the journal then. -/
structure Out where
 err : Int
 bay : Bay
 jn : Jn

/-- What some operations were for, unless one has failed. -/
def ends (io : Io) (J J' : Jn) : Out := if io.2 = 0 then ⟨0, io.1, J'.broke 0⟩ else ⟨(io.2 : Nat), io.1, J.broke io.2⟩

def logErr (J : Jn) (e : Int) (n : Nat) : Int := if J.br ≠ 0 then (J.br : Nat) else if e ≠ 0 then e else if J.S < 2 * n + 1 then 122 else if J.S - J.u < 2 * n + 1 then 121 else 0

def body (J : Jn) (l : List Pd) : List (List Nat) := (Sc.secs J.ep J.next l).take (2 * l.length)
def commitOf (J : Jn) (l : List Pd) : List Nat := (Sc.cmOf J.ep J.next l.length (Sc.hcat J.ep J.next l l.length)).rec'.sector

def logIo (y : Bay) (J : Jn) (l : List Pd) : Io := fl J.slot (wrs J.slot (y, J.br) (J.puts (body J l)))
def logged (J : Jn) (l : List Pd) : Jn := { J with sure := true, commit := some (commitOf J l), cost := 2 * l.length + 1 }

def logJ (y : Bay) (J : Jn) (e : Int) (l : List Pd) : Out := if logErr J e l.length ≠ 0 then ⟨logErr J e l.length, y, J⟩ else ends (logIo y J l) J (logged J l)

def sealed (J : Jn) : Jn := { J with u := J.u + J.cost, next := J.next + 1, sure := false, commit := none }
def sealJ (y : Bay) (J : Jn) : Out := if J.br ≠ 0 then ⟨(J.br : Nat), y, J⟩ else match J.commit with
 | none => ⟨1, y, J⟩
 | some c => ends (wr J.slot (y, J.br) (J.place (J.cost - 1) : Nat) c) J (sealed J)

def syncJ (y : Bay) (J : Jn) : Out := if J.sure = true then ⟨0, y, J⟩ else ends (fl J.slot (y, J.br)) J { J with sure := true }

def passIo (y : Bay) (J : Jn) (ep : Nat) : Io := fl J.slot (wr J.slot (y, J.br) 1 (Ck.enc ⟨ep, J.next, (J.head : Nat)⟩))
def passed (J : Jn) (ep : Nat) : Jn := { J with ep := ep, t := J.head, u := 0, commit := none }
def passJ (y : Bay) (J : Jn) (ep : Nat) : Out := if J.br ≠ 0 then ⟨(J.br : Nat), y, J⟩ else if J.sure = false then ⟨1, y, J⟩ else
 if Ck.err ⟨ep, J.next, (J.head : Nat)⟩ ≠ 0 then ⟨Ck.err ⟨ep, J.next, (J.head : Nat)⟩, y, J⟩ else ends (passIo y J ep) J (passed J ep)

def zerosAt (n : Nat) : List (Nat × List Nat) := (List.range n).map fun p => (2 + p, Sc.zeros)
def fmtIo (y : Bay) (s : Int) (n ep : Nat) : Io := fl s (wr s (wrs s (y, 0) (zerosAt n)) 1 (Ck.enc ⟨ep, 1, 0⟩))
def begun (s : Int) (n : Nat) (c : Ck) (u next : Nat) : Jn := ⟨s, n, c.tl.toNat, u, c.ep, next, true, none, 0, 0⟩

theorem Jn.puts_snoc (J : Jn) (l : List (List Nat)) (x : List Nat) : J.puts (l ++ [x]) = J.puts l ++ [(J.place l.length, x)] := by simp [Jn.puts, List.mapIdx_append]

theorem Jn.puts_take (J : Jn) {l : List (List Nat)} {k : Nat} {x : List Nat} (h : l[k]? = some x) : J.puts (l.take (k + 1)) = J.puts (l.take k) ++ [(J.place k, x)] := by
 have hk := (List.getElem?_eq_some_iff.1 h).1
 rw [List.take_add_one, h, Option.toList_some, Jn.puts_snoc, List.length_take, Nat.min_eq_left (by omega)]

theorem wrs_io2 {s : Int} : ∀ (ws : List (Nat × List Nat)) {st : Io}, st.2 ≠ 0 → wrs s st ws = st
 | [], _, _ => rfl
 | w :: ws, st, h => by
   have e : wr s st (w.1 : Int) w.2 = st := by unfold wr; rw [if_neg h]
   show wrs s (wr s st (w.1 : Int) w.2) ws = st
   rw [e]
   exact wrs_io2 ws h

end Wl
end Go.Proofs.YtkafkdlgflkjgaaGreat
