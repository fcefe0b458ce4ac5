/-
  What a journal's calls come to on a disk that answers. By an AI agent.
-/
import Derived.Test.YtkafkdlgflkjgaaGreatBWlSpec
import Derived.Test.YtkafkdlgflkjgaaGreatBScChk
namespace Go.Proofs.YtkafkdlgflkjgaaGreat
open Crc
namespace Wl

/-- A journal on a disk that answers; its numbers are at most B. -/
structure Ok (y : Bay) (J : Jn) (d : Dk) (B : Nat) : Prop where
 up : y.Up J.slot d
 size : 2 + J.S ≤ d.last.length
 lo : 5 ≤ J.S
 hi : J.S ≤ 2048
 tail : J.t < J.S
 used : J.u ≤ J.S
 br : J.br = 0
 next : J.next ≤ B
 ep : J.ep ≤ B
 com : ∀ c, J.commit = some c → c.length = 128 ∧ Bs c ∧ 1 ≤ J.cost ∧ J.u + J.cost ≤ J.S
 cost : J.cost ≤ 2047

theorem Ok.fit {y : Bay} {J : Jn} {d : Dk} {B : Nat} (h : Ok y J d B) (hB : B < 9223372036854775808) : J.Fit := ⟨h.lo, h.hi, h.tail, h.used, Nat.lt_of_le_of_lt h.ep hB, Nat.lt_of_le_of_lt h.next hB, h.com, h.cost⟩

theorem Ok.more {y : Bay} {J : Jn} {d : Dk} {B : Nat} (h : Ok y J d B) : Ok y J d (B + 1) := ⟨h.up, h.size, h.lo, h.hi, h.tail, h.used, h.br, Nat.le_succ_of_le h.next, Nat.le_succ_of_le h.ep, h.com, h.cost⟩

theorem Jn.place_lt (J : Jn) (h : 5 ≤ J.S) (i : Nat) : J.place i < 2 + J.S := by
 have : (J.t + (J.u + i)) % J.S < J.S := Nat.mod_lt _ (by omega)
 unfold Jn.place
 omega

theorem Jn.puts_mem {J : Jn} {l : List (List Nat)} {w : Nat × List Nat} (h : w ∈ J.puts l) : ∃ i, w.1 = J.place i ∧ w.2 ∈ l := by
 obtain ⟨i, hi, e⟩ := List.mem_mapIdx.1 h
 exact ⟨i, by rw [← e], by rw [← e]; exact List.getElem_mem hi⟩

theorem Jn.puts_len (J : Jn) (l : List (List Nat)) : (J.puts l).length = l.length := by simp [Jn.puts]

theorem body_len (J : Jn) (l : List Pd) : (body J l).length = 2 * l.length := by
 unfold body
 rw [List.length_take, Sc.secs_len]
 omega

theorem commit_len {J : Jn} {l : List Pd} (hg : Sc.Good l) : (commitOf J l).length = 128 ∧ Bs (commitOf J l) := Sc.secs_ok (ep := J.ep) (sq := J.next) hg _ (List.mem_of_getElem? (Sc.secs_cm J.ep J.next l))

/-- Log, when it is not refused. -/
theorem Ok.log {y : Bay} {J : Jn} {d : Dk} {B : Nat} (h : Ok y J d B) {l : List Pd} (hg : Sc.Good l) (h0 : logErr J 0 l.length = 0) :
 ∃ d', (logJ y J 0 l).err = 0 ∧ (logJ y J 0 l).jn = logged J l ∧ Ok (logJ y J 0 l).bay (logged J l) d' B ∧ y.Went (logJ y J 0 l).bay J.slot d' 0 (2 * l.length) 1 ∧
   d' = { d with last := (d.cache ++ J.puts (body J l)).foldl Dk.lay d.last, cache := [] } := by
 have hfit : 2 * l.length + 1 ≤ J.S - J.u := by
  unfold logErr at h0
  rw [if_neg (fun q => q h.br), if_neg (fun q => q rfl)] at h0
  split at h0
  ·cases h0
  ·split at h0
   ·cases h0
   ·omega
 have hw : ∀ w ∈ J.puts (body J l), w.1 < d.last.length ∧ w.2.length = 128 := fun w hm => by
  obtain ⟨i, h1, h2⟩ := Jn.puts_mem hm
  have h3 := J.place_lt h.lo i
  have := h.size
  exact ⟨by omega, (Sc.secs_ok hg _ (List.mem_of_mem_take h2)).1⟩
 obtain ⟨a1, a2⟩ := wrs_up (J.puts (body J l)) h.up hw
 obtain ⟨b1, b2⟩ := fl_up a2.up
 have e1 : wrs J.slot (y, 0) (J.puts (body J l)) = ((wrs J.slot (y, 0) (J.puts (body J l))).1, 0) := Prod.ext rfl a1
 have e2 : logIo y J l = fl J.slot ((wrs J.slot (y, 0) (J.puts (body J l))).1, 0) := by unfold logIo; rw [h.br, e1]
 have e3 : logJ y J 0 l = ⟨0, (logIo y J l).1, (logged J l).broke 0⟩ := by
  unfold logJ ends
  rw [if_neg (fun q => q h0), if_pos (by rw [e2]; exact b1)]
 have e4 : (logged J l).broke 0 = logged J l := by unfold Jn.broke logged; rw [h.br]
 have w := a2.trans b2
 rw [← e2, Jn.puts_len, body_len] at w
 rw [e3, e4]
 refine ⟨_, rfl, rfl, ⟨w.up, ?_, h.lo, h.hi, h.tail, h.used, h.br, h.next, h.ep, fun c hc => ?_, ?_⟩, by simpa using w, rfl⟩
 ·show 2 + J.S ≤ ((d.cache ++ J.puts (body J l)).foldl Dk.lay d.last).length
  rw [Dk.lays_length]
  exact h.size
 ·obtain rfl : commitOf J l = c := Option.some.inj hc
  obtain ⟨c1, c2⟩ := commit_len (J := J) hg
  have := h.used
  exact ⟨c1, c2, by show 1 ≤ 2 * l.length + 1; omega, by show J.u + (2 * l.length + 1) ≤ J.S; omega⟩
 ·show 2 * l.length + 1 ≤ 2047
  have := hg.2.1
  omega

theorem Ok.log_no {y : Bay} {J : Jn} {d : Dk} {B : Nat} (_ : Ok y J d B) {e : Int} {l : List Pd} (h0 : logErr J e l.length ≠ 0) : logJ y J e l = ⟨logErr J e l.length, y, J⟩ := by
 unfold logJ
 rw [if_pos h0]

/-- Seal. -/
theorem Ok.sealing {y : Bay} {J : Jn} {d : Dk} {B : Nat} (h : Ok y J d B) : (J.commit = none ∧ sealJ y J = ⟨1, y, J⟩) ∨ ∃ c d', J.commit = some c ∧ (sealJ y J).err = 0 ∧ (sealJ y J).jn = sealed J ∧ Ok (sealJ y J).bay (sealed J) d' (B + 1) ∧ y.Went (sealJ y J).bay J.slot d' 0 1 0 ∧
 d' = { d with cache := d.cache ++ [(J.place (J.cost - 1), c)] } := by
 cases hc : J.commit with
 | none =>
   left
   refine ⟨rfl, ?_⟩
   unfold sealJ
   rw [if_neg (fun q => q h.br), hc]
 | some c =>
   right
   obtain ⟨c1, c2, c3, c4⟩ := h.com c hc
   have hp := J.place_lt h.lo (J.cost - 1)
   have hz := h.size
   obtain ⟨w1, w2⟩ := h.up.write (p := J.place (J.cost - 1)) (x := c) (by omega) c1
   have e : sealJ y J = ⟨0, y.write J.slot (J.place (J.cost - 1) : Nat) c, (sealed J).broke 0⟩ := by
    unfold sealJ
    rw [if_neg (fun q => q h.br), hc, h.br]
    show ends (wr J.slot (y, 0) (J.place (J.cost - 1) : Nat) c) J (sealed J) = _
    have : wr J.slot (y, 0) (J.place (J.cost - 1) : Nat) c = (y.write J.slot (J.place (J.cost - 1) : Nat) c, 0) := by unfold wr; rw [if_pos rfl, w1]
    rw [this]
    rfl
   have e4 : (sealed J).broke 0 = sealed J := by unfold Jn.broke sealed; rw [h.br]
   rw [e, e4]
   refine ⟨c, _, rfl, rfl, rfl, ⟨w2.up, hz, h.lo, h.hi, h.tail, by show J.u + J.cost ≤ J.S; exact c4, h.br, by show J.next + 1 ≤ B + 1; have := h.next; omega, Nat.le_succ_of_le h.ep, (fun c' hc' => by cases hc'), h.cost⟩, w2, rfl⟩

/-- Sync. -/
theorem Ok.syncing {y : Bay} {J : Jn} {d : Dk} {B : Nat} (h : Ok y J d B) : (J.sure = true ∧ syncJ y J = ⟨0, y, J⟩) ∨ ∃ d', J.sure = false ∧ (syncJ y J).err = 0 ∧ (syncJ y J).jn = { J with sure := true } ∧ Ok (syncJ y J).bay { J with sure := true } d' B ∧ y.Went (syncJ y J).bay J.slot d' 0 0 1 ∧
 d' = { d with last := d.cache.foldl Dk.lay d.last, cache := [] } := by
 cases hs : J.sure with
 | true =>
   left
   refine ⟨rfl, ?_⟩
   unfold syncJ
   rw [if_pos hs]
 | false =>
   right
   obtain ⟨b1, b2⟩ := fl_up h.up
   have e : syncJ y J = ⟨0, (fl J.slot (y, 0)).1, ({ J with sure := true } : Jn).broke 0⟩ := by
    unfold syncJ ends
    rw [if_neg (by rw [hs]; decide), h.br, if_pos b1]
   have e4 : ({ J with sure := true } : Jn).broke 0 = { J with sure := true } := by unfold Jn.broke; rw [h.br]
   rw [e, e4]
   exact ⟨_, rfl, rfl, rfl, ⟨b2.up, by show 2 + J.S ≤ (d.cache.foldl Dk.lay d.last).length; rw [Dk.lays_length]; exact h.size, h.lo, h.hi, h.tail, h.used, h.br, h.next, h.ep, h.com, h.cost⟩, b2, rfl⟩

/-- Reclaim and Renew. -/
theorem Ok.passing {y : Bay} {J : Jn} {d : Dk} {B : Nat} (h : Ok y J d B) (ep : Nat) (he' : ep ≤ B + 1) : ((passJ y J ep).err ≠ 0 ∧ (passJ y J ep).bay = y ∧ (passJ y J ep).jn = J) ∨ ∃ d', J.sure = true ∧ Ck.Ok ⟨ep, J.next, (J.head : Nat)⟩ ∧ (passJ y J ep).err = 0 ∧ (passJ y J ep).jn = passed J ep ∧ Ok (passJ y J ep).bay (passed J ep) d' (B + 1) ∧ y.Went (passJ y J ep).bay J.slot d' 0 1 1 ∧
 d' = { d with last := (d.cache ++ [(1, Ck.enc ⟨ep, J.next, (J.head : Nat)⟩)]).foldl Dk.lay d.last, cache := [] } := by
 cases hs : J.sure with
 | false =>
   left
   have e : passJ y J ep = ⟨1, y, J⟩ := by unfold passJ; rw [if_neg (fun q => q h.br), if_pos hs]
   rw [e]
   exact ⟨by show (1 : Int) ≠ 0; decide, rfl, rfl⟩
 | true =>
   by_cases hok : Ck.Ok ⟨ep, J.next, (J.head : Nat)⟩
   case neg =>
    left
    have he : Ck.err ⟨ep, J.next, (J.head : Nat)⟩ = 80 := by unfold Ck.err; rw [if_neg hok]
    have e : passJ y J ep = ⟨80, y, J⟩ := by unfold passJ; rw [if_neg (fun q => q h.br), if_neg (by rw [hs]; decide), he, if_pos (by decide)]
    rw [e]
    exact ⟨by show (80 : Int) ≠ 0; decide, rfl, rfl⟩
   right
   have hlen : (Ck.enc ⟨ep, J.next, (J.head : Nat)⟩).length = 128 := by
    unfold Ck.enc
    rw [if_pos hok]
    exact Rec.sector_length (by show (1 : Nat) ≤ 25; decide)
   have hz := h.size
   obtain ⟨w1, w2⟩ := h.up.write (p := 1) (x := Ck.enc ⟨ep, J.next, (J.head : Nat)⟩) (by omega) hlen
   obtain ⟨b1, b2⟩ := fl_up w2.up
   have he : Ck.err ⟨ep, J.next, (J.head : Nat)⟩ = 0 := by unfold Ck.err; rw [if_pos hok]
   have e1 : passIo y J ep = fl J.slot (y.write J.slot ((1 : Nat) : Int) (Ck.enc ⟨ep, J.next, (J.head : Nat)⟩), 0) := by
    unfold passIo
    rw [h.br]
    have : wr J.slot (y, 0) 1 (Ck.enc ⟨ep, J.next, (J.head : Nat)⟩) = (y.write J.slot ((1 : Nat) : Int) (Ck.enc ⟨ep, J.next, (J.head : Nat)⟩), 0) := by
     unfold wr
     rw [if_pos rfl]
     exact Prod.ext rfl w1
    rw [this]
   have e : passJ y J ep = ⟨0, (passIo y J ep).1, (passed J ep).broke 0⟩ := by
    unfold passJ ends
    rw [if_neg (fun q => q h.br), if_neg (by rw [hs]; decide), if_neg (by rw [he]; exact fun q => q rfl), if_pos (by rw [e1]; exact b1)]
   have e4 : (passed J ep).broke 0 = passed J ep := by unfold Jn.broke passed; rw [h.br]
   have w := w2.trans b2
   rw [← e1] at w
   rw [e, e4]
   refine ⟨_, rfl, hok, rfl, rfl, ⟨w.up, ?_, h.lo, h.hi, ?_, Nat.zero_le _, h.br, Nat.le_succ_of_le h.next, he', (fun c' hc' => by cases hc'), h.cost⟩, by simpa using w, rfl⟩
   ·show 2 + J.S ≤ ((d.cache ++ [(1, Ck.enc ⟨ep, J.next, (J.head : Nat)⟩)]).foldl Dk.lay d.last).length
    rw [Dk.lays_length]
    exact hz
   ·show J.head < J.S
    exact Nat.mod_lt _ (by have := h.lo; omega)

/-- The power goes and comes back. -/
theorem up_cut {y : Bay} {s : Int} {d : Dk} (h : y.Up s d) (hc : (y.slots[s.toNat]?).bind (·.coming) = none) (keeps : List (List Bool)) :
 (y.cut keeps).Up s { d with last := (Dk.kept (keeps.getD s.toNat []) 0 d.cache).foldl Dk.lay d.last, cache := [] } ∧ ((y.cut keeps).slots[s.toNat]?).bind (·.coming) = none := by
 have hi := h.is
 have hd := h.dev
 unfold Bay.dev at hd
 rw [if_pos hi] at hd
 cases hx : y.slots[s.toNat]? with
 | none => rw [hx] at hd; cases hd
 | some x =>
   rw [hx] at hd hc
   obtain ⟨xi, xa, xc⟩ := x
   obtain rfl : xi = some ⟨d, none⟩ := hd
   obtain rfl : xc = none := hc
   have e : (y.cut keeps).slots[s.toNat]? = some ⟨some ⟨{ d with last := (Dk.kept (keeps.getD s.toNat []) 0 d.cache).foldl Dk.lay d.last, cache := [] }, none⟩, xa, none⟩ := by
    show (y.slots.mapIdx (Bay.cutSlot keeps))[s.toNat]? = _
    rw [List.getElem?_mapIdx, hx]
    show some (⟨some ((⟨d, none⟩ : Dev).lay (d.crash (keeps.getD s.toNat []))), xa, none⟩ : Slot) = _
    rw [Dk.crash_ok h.bad]
    rfl
   refine ⟨⟨?_, h.bad, rfl, rfl⟩, by rw [e]; rfl⟩
   unfold Bay.dev
   have hi2 : (y.cut keeps).is s = true := by
    have h1 := of_decide_eq_true hi
    refine decide_eq_true ⟨h1.1, ?_⟩
    show s < ((y.slots.mapIdx (Bay.cutSlot keeps)).length : Int)
    rw [List.length_mapIdx]
    exact h1.2
   rw [if_pos hi2, e]
   rfl

/-- Format, on a disk that answers. -/
theorem fmt_up {y : Bay} {s : Int} {d : Dk} (h : y.Up s d) {n ep B : Nat} (n5 : 5 ≤ n) (n2 : n ≤ 2048) (hz : 2 + n ≤ d.last.length) (hep : ep ≤ 4611686018427387904) (hB : 1 ≤ B ∧ ep ≤ B) :
 ∃ d', (fmtIo y s n ep).2 = 0 ∧ y.Went (fmtIo y s n ep).1 s d' 0 (n + 1) 1 ∧ Ok (fmtIo y s n ep).1 (begun s n ⟨ep, 1, 0⟩ 0 1) d' B ∧
   d' = { d with last := (d.cache ++ zerosAt n ++ [(1, Ck.enc ⟨ep, 1, 0⟩)]).foldl Dk.lay d.last, cache := [] } := by
 have hok : Ck.Ok ⟨ep, 1, 0⟩ := ⟨⟨hep, Nat.le_refl 1, by show (1 : Nat) ≤ 4611686018427387904; decide⟩, Int.le_refl 0, by show (0 : Int) ≤ 2047; decide⟩
 have hlen : (Ck.enc ⟨ep, 1, 0⟩).length = 128 := by
  unfold Ck.enc
  rw [if_pos hok]
  exact Rec.sector_length (by show (1 : Nat) ≤ 25; decide)
 obtain ⟨a1, a2⟩ := wrs_up (zerosAt n) h (fun w hw => by
  obtain ⟨p, hp, rfl⟩ := List.mem_map.1 hw
  have := List.mem_range.1 hp
  exact ⟨by show 2 + p < _; omega, by simp [Sc.zeros]⟩)
 obtain ⟨w1, w2⟩ := a2.up.write (p := 1) (x := Ck.enc ⟨ep, 1, 0⟩) (by show 1 < d.last.length; omega) hlen
 obtain ⟨b1, b2⟩ := fl_up w2.up
 have e1 : wrs s (y, 0) (zerosAt n) = ((wrs s (y, 0) (zerosAt n)).1, 0) := Prod.ext rfl a1
 have e2 : wr s (wrs s (y, 0) (zerosAt n)) 1 (Ck.enc ⟨ep, 1, 0⟩) = ((wrs s (y, 0) (zerosAt n)).1.write s ((1 : Nat) : Int) (Ck.enc ⟨ep, 1, 0⟩), 0) := by
  rw [e1]
  unfold wr
  rw [if_pos rfl]
  exact Prod.ext rfl w1
 have e3 : fmtIo y s n ep = fl s ((wrs s (y, 0) (zerosAt n)).1.write s ((1 : Nat) : Int) (Ck.enc ⟨ep, 1, 0⟩), 0) := by unfold fmtIo; rw [e2]
 have w := (a2.trans w2).trans b2
 rw [← e3] at w
 have hl : (zerosAt n).length = n := by simp [zerosAt]
 rw [hl] at w
 refine ⟨_, by rw [e3]; exact b1, by simpa using w, ⟨w.up, ?_, n5, n2, by show (0 : Int).toNat < n; simp; omega, Nat.zero_le _, rfl, hB.1, hB.2, (fun c hc => by cases hc), by show (0 : Nat) ≤ 2047; omega⟩, rfl⟩
 show 2 + n ≤ ((d.cache ++ zerosAt n ++ [(1, Ck.enc ⟨ep, 1, 0⟩)]).foldl Dk.lay d.last).length
 rw [Dk.lays_length]
 exact hz

theorem ends_bay (io : Io) (J J' : Jn) : (ends io J J').bay = io.1 := by unfold ends; split <;> rfl

theorem logJ_low {k : Nat} {y : Bay} (h : y.Low k) (J : Jn) (e : Int) (l : List Pd) : (logJ y J e l).bay.Low (k + (2 * l.length + 1)) := by
 unfold logJ
 split
 ·exact h.mono (by omega)
 ·rw [ends_bay]
  have := fl_low (s := J.slot) (wrs_low (s := J.slot) (J.puts (body J l)) (st := (y, J.br)) h)
  rw [Jn.puts_len, body_len] at this
  exact this

theorem sealJ_low {k : Nat} {y : Bay} (h : y.Low k) (J : Jn) : (sealJ y J).bay.Low (k + 1) := by
 unfold sealJ
 split
 ·exact h.mono (by omega)
 ·split
  ·exact h.mono (by omega)
  ·rw [ends_bay]
   exact wr_low (st := (y, J.br)) h _ _

theorem syncJ_low {k : Nat} {y : Bay} (h : y.Low k) (J : Jn) : (syncJ y J).bay.Low (k + 1) := by
 unfold syncJ
 split
 ·exact h.mono (by omega)
 ·rw [ends_bay]
  exact fl_low (st := (y, J.br)) h

theorem passJ_low {k : Nat} {y : Bay} (h : y.Low k) (J : Jn) (ep : Nat) : (passJ y J ep).bay.Low (k + 2) := by
 unfold passJ
 split
 ·exact h.mono (by omega)
 ·split
  ·exact h.mono (by omega)
  ·split
   ·exact h.mono (by omega)
   ·rw [ends_bay]
    exact fl_low (wr_low (st := (y, J.br)) h _ _)

theorem fmtIo_low {k : Nat} {y : Bay} (h : y.Low k) (s : Int) (n ep : Nat) : (fmtIo y s n ep).1.Low (k + (n + 2)) := by
 have := fl_low (s := s) (wr_low (s := s) (wrs_low (s := s) (zerosAt n) (st := (y, 0)) h) 1 (Ck.enc ⟨ep, 1, 0⟩))
 rw [show (zerosAt n).length = n by simp [zerosAt]] at this
 exact this

end Wl
end Go.Proofs.YtkafkdlgflkjgaaGreat

/-
  What 'known' of the journal comes to, in numbers. By an AI agent.
-/
namespace Go.Proofs.YtkafkdlgflkjgaaGreat
open Crc
namespace Wl

def fiver : List Nat := (List.replicate 128 0).set 7 5
theorem fiver_len : fiver.length = 128 := by decide +kernel
theorem fiver_bs : Bs fiver := by unfold Bs; decide +kernel
def p5 : Pd := ⟨1, 2, fiver⟩
theorem good5 : Sc.Good [p5] := ⟨by decide, by decide, fun p hp => by
 rw [List.mem_singleton.1 hp]
 exact ⟨by decide, by decide, fiver_len, fiver_bs⟩⟩

theorem over_same {k : Nat} {b : List Nat} : ∀ {ws : List (Nat × List Nat)}, (∀ w ∈ ws, w.1 = k → w.2 = b) → Dk.over k b ws = b
 | [], _ => rfl
 | w :: ws, h => by
   have h1 : (if w.1 = k then w.2 else b) = b := by
    split
    ·rename_i e
     exact h w List.mem_cons_self e
    ·rfl
   show Dk.over k (if w.1 = k then w.2 else b) ws = b
   rw [h1]
   exact over_same (fun x hx => h x (List.mem_cons_of_mem _ hx))

theorem over_app (k : Nat) (b : List Nat) (ws vs : List (Nat × List Nat)) : Dk.over k b (ws ++ vs) = Dk.over k (Dk.over k b ws) vs := by
 unfold Dk.over
 rw [List.foldl_append]

def ck1 : Ck := ⟨1, 1, 0⟩
theorem ck1_ok : ck1.Ok := ⟨⟨by decide, by decide, by decide⟩, by decide, by decide⟩

/-- A new disk behind Format. -/
theorem fresh_at {d' d : Dk} {n ep : Nat} (hd : d = Dk.new (2 + n)) (e : d' = { d with last := (d.cache ++ zerosAt n ++ [(1, Ck.enc ⟨ep, 1, 0⟩)]).foldl Dk.lay d.last, cache := [] }) :
 (∀ p, p < n → d'.last.getD (2 + p) [] = Sc.zeros) ∧ d'.last.getD 1 [] = Ck.enc ⟨ep, 1, 0⟩ ∧ d'.last.length = 2 + n ∧ d'.cache = [] := by
 have hl : d.last.length = 2 + n := by rw [hd]; simp [Dk.new]
 have hc : d.cache = [] := by rw [hd]; rfl
 have hz : ∀ k, k < 2 + n → d.last.getD k [] = Sc.zeros := fun k hk => by
  rw [hd]
  simp [Dk.new, List.getD, hk, Sc.zeros]
 refine ⟨fun p hp => ?_, ?_, ?_, by rw [e]⟩
 ·rw [e]
  show ((d.cache ++ zerosAt n ++ [(1, Ck.enc ⟨ep, 1, 0⟩)]).foldl Dk.lay d.last).getD (2 + p) [] = _
  rw [Dk.lays_getD _ _ _ (by omega), hz _ (by omega), hc, List.nil_append]
  refine over_same fun w hw he => ?_
  rcases List.mem_append.1 hw with q | q
  ·obtain ⟨_, _, rfl⟩ := List.mem_map.1 q
   rfl
  ·rw [List.mem_singleton.1 q] at he
   simp at he
   omega
 ·rw [e]
  show ((d.cache ++ zerosAt n ++ [(1, Ck.enc ⟨ep, 1, 0⟩)]).foldl Dk.lay d.last).getD 1 [] = _
  rw [Dk.lays_getD _ _ _ (by omega), over_app]
  simp [Dk.over]
 ·rw [e]
  show ((d.cache ++ zerosAt n ++ [(1, Ck.enc ⟨ep, 1, 0⟩)]).foldl Dk.lay d.last).length = _
  rw [Dk.lays_length]
  exact hl

theorem ck1_enc : Ck.derr (Ck.enc ck1) = 0 ∧ Ck.dval (Ck.enc ck1) = ck1 := by
 unfold Ck.enc
 rw [if_pos ck1_ok]
 exact Ck.back ck1 ck1_ok

/-- What a disk has behind a batch of one patch, sealed, and a cut that keeps the seal. -/
theorem known_ring {d1 d4 : Dk} (h1 : ∀ p, p < 10 → d1.last.getD (2 + p) [] = Sc.zeros) (h2 : d1.last.getD 1 [] = Ck.enc ck1) (hl : d1.last.length = 12) {a b c : List Nat}
 (e : d4.last = Dk.lay (Dk.lay (Dk.lay d1.last (2, a)) (3, b)) (4, c)) (ec : d4.cache = []) :
 d4.now 1 = Ck.enc ck1 ∧ d4.now 2 = a ∧ d4.now 3 = b ∧ d4.now 4 = c ∧ ∀ p, 3 ≤ p → p < 10 → d4.now (2 + p) = Sc.zeros := by
 have hn : ∀ k, d4.now k = d4.last.getD k [] := fun k => by unfold Dk.now; rw [ec]; rfl
 have hg : ∀ k, k < 12 → d4.last.getD k [] = Dk.over k (d1.last.getD k []) [(2, a), (3, b), (4, c)] := fun k hk => by
  have := Dk.lays_getD [(2, a), (3, b), (4, c)] d1.last k (by omega)
  rw [← this, e]
  rfl
 refine ⟨?_, ?_, ?_, ?_, fun p hp hp2 => ?_⟩
 ·rw [hn, hg 1 (by decide), h2]; rfl
 ·rw [hn, hg 2 (by decide)]; rfl
 ·rw [hn, hg 3 (by decide)]; rfl
 ·rw [hn, hg 4 (by decide)]; rfl
 ·rw [hn, hg _ (by omega), h1 p hp2]
  refine over_same fun w hw he => ?_
  simp at hw
  rcases hw with rfl | rfl | rfl <;> simp at he <;> omega

theorem known12 {g : Nat → List Nat} (h0 : ∀ p, p < 10 → (g p).length = 128 ∧ Bs (g p)) (hs : ∀ (j : Nat) (s : List Nat), (Sc.secs 1 1 [p5])[j]? = some s → g j = s) (hz : ∀ p, 3 ≤ p → p < 10 → g p = Sc.zeros) {L : List (List Pd)} {u : Nat} (hd : Sc.Done (ringB 10 g) 1 0 1 L u) : L = [[p5]] ∧ u = 3 := by
 have hlen : (ringB 10 g).length = 1280 := ringB_len (fun p hp => (h0 p hp).1)
 have hsec : ∀ p, Sc.sec (ringB 10 g) p = g (p % 10) := ringB_sec (fun p hp => (h0 p hp).1) (by decide)
 have hc : Sc.chain 1 1 [[p5]] = Sc.secs 1 1 [p5] := by simp [Sc.chain]
 have hl : (Sc.chain 1 1 [[p5]]).length = 3 := by rw [hc, Sc.secs_len]; rfl
 have h := Sc.from_done (ring := ringB 10 g) (ep := 1) (at_ := 0) (sq := 1) (ringB_bs (fun p hp => (h0 p hp).2)) (by decide) (by decide) (L := [[p5]]) (fun j s hj => by
  rw [hc] at hj
  have hj3 : j < 3 := by rw [← hl, hc]; exact (List.getElem?_eq_some_iff.1 hj).1
  rw [hsec, Nat.zero_add, Nat.mod_eq_of_lt (by omega)]
  exact hs j s hj) (fun q hq => by
  rw [hsec]
  have hm : q % 10 < 10 := Nat.mod_lt _ (by decide)
  refine hz _ ?_ hm
  rcases Nat.lt_or_ge (q % 10) 3 with k | k
  ·exfalso
   refine hq (q % 10) (by rw [hl]; exact k) ?_
   rw [hlen]
   omega
  ·exact k) (fun l hl => by rw [List.mem_singleton.1 hl]; exact good5) (by rw [hl, hlen]; decide) (by decide) (i := 0) (by decide)
 simp only [List.take_zero, List.drop_zero, Nat.add_zero] at h
 rw [hl, hlen] at h
 have h2 : Sc.Done (ringB 10 g) 1 0 1 [[p5]] 3 := by simpa [Sc.chain] using h
 obtain ⟨e1, e2⟩ := hd.uniq h2
 exact ⟨e1, e2⟩

end Wl
end Go.Proofs.YtkafkdlgflkjgaaGreat

/-
  How many operations a journal's calls do, on a disk that answers. By an AI agent.
-/
namespace Go.Proofs.YtkafkdlgflkjgaaGreat
open Crc
namespace Wl

/-- What a call does that comes to o: so many writes and flushes, if it is not refused. -/
structure Costs (y : Bay) (J : Jn) (B : Nat) (o : Out) (nw nf : Nat) : Prop where
 ok : ∃ d', Ok o.bay o.jn d' (B + 1)
 reads : o.bay.reads = y.reads
 did : o.err = 0 → o.bay.writes = y.writes + nw ∧ o.bay.flushes = y.flushes + nf
 no : o.err ≠ 0 → o.bay.writes = y.writes ∧ o.bay.flushes = y.flushes
 slot : o.jn.slot = J.slot
 size : o.jn.S = J.S

theorem Ok.same {y : Bay} {J : Jn} {d : Dk} {B : Nat} (h : Ok y J d B) {e : Int} (he : e ≠ 0) (nw nf : Nat) : Costs y J B ⟨e, y, J⟩ nw nf :=
 ⟨⟨d, h.more⟩, rfl, fun q => absurd q he, fun _ => ⟨rfl, rfl⟩, rfl, rfl⟩

theorem Ok.logCosts {y : Bay} {J : Jn} {d : Dk} {B : Nat} (h : Ok y J d B) {e : Int} {l : List Pd} (hg : e = 0 → Sc.Good l) : Costs y J B (logJ y J e l) (2 * l.length) 1 := by
 by_cases h0 : logErr J e l.length = 0
 case neg =>
  rw [h.log_no h0]
  exact h.same h0 _ _
 have he : e = 0 := by
  by_cases q : e = 0
  ·exact q
  ·unfold logErr at h0
   rw [if_neg (fun k => k h.br), if_pos q] at h0
   exact h0
 subst he
 obtain ⟨d', h1, h2, h3, h4, _⟩ := h.log (hg rfl) h0
 refine ⟨⟨d', by rw [h2]; exact h3.more⟩, h4.reads, fun _ => ⟨h4.writes, h4.flushes⟩, fun q => absurd h1 q, by rw [h2]; rfl, by rw [h2]; rfl⟩

theorem Ok.sealCosts {y : Bay} {J : Jn} {d : Dk} {B : Nat} (h : Ok y J d B) : Costs y J B (sealJ y J) 1 0 := by
 rcases h.sealing with ⟨_, e⟩ | ⟨c, d', _, h1, h2, h3, h4, _⟩
 ·rw [e]
  exact h.same (by decide) _ _
 ·exact ⟨⟨d', by rw [h2]; exact h3⟩, h4.reads, fun _ => ⟨h4.writes, h4.flushes⟩, fun q => absurd h1 q, by rw [h2]; rfl, by rw [h2]; rfl⟩

theorem Ok.syncCosts {y : Bay} {J : Jn} {d : Dk} {B : Nat} (h : Ok y J d B) : (syncJ y J).err = 0 ∧ Costs y J B (syncJ y J) 0 (if J.sure = true then 0 else 1) := by
 rcases h.syncing with ⟨hs, e⟩ | ⟨d', hs, h1, h2, h3, h4, _⟩
 ·rw [e, if_pos hs]
  exact ⟨rfl, ⟨d, h.more⟩, rfl, fun _ => ⟨rfl, rfl⟩, fun q => absurd rfl q, rfl, rfl⟩
 ·rw [if_neg (by rw [hs]; decide)]
  exact ⟨h1, ⟨d', by rw [h2]; exact h3.more⟩, h4.reads, fun _ => ⟨h4.writes, h4.flushes⟩, fun q => absurd h1 q, by rw [h2], by rw [h2]⟩

theorem Ok.passCosts {y : Bay} {J : Jn} {d : Dk} {B : Nat} (h : Ok y J d B) (ep : Nat) (he : ep ≤ B + 1) : Costs y J B (passJ y J ep) 1 1 := by
 rcases h.passing ep he with ⟨h1, h2, h3⟩ | ⟨d', _, _, h1, h2, h3, h4, _⟩
 ·refine ⟨⟨d, by rw [h2, h3]; exact h.more⟩, by rw [h2], fun q => absurd q h1, fun _ => by rw [h2]; exact ⟨rfl, rfl⟩, by rw [h3], by rw [h3]⟩
 ·exact ⟨⟨d', by rw [h2]; exact h3⟩, h4.reads, fun _ => ⟨h4.writes, h4.flushes⟩, fun q => absurd h1 q, by rw [h2]; rfl, by rw [h2]; rfl⟩

/-- A new journal on a new disk of 2050 sectors. -/
theorem cost_begin {n : Nat} (n5 : 5 ≤ n) (n2 : n ≤ 2048) : (fmtIo (Bay.new [2050]) 0 n 3).2 = 0 ∧ ∃ d', Ok (fmtIo (Bay.new [2050]) 0 n 3).1 (begun 0 n ⟨3, 1, 0⟩ 0 1) d' 3 := by
 have hu : (Bay.new [2050]).Up 0 (Dk.new 2050) := ⟨rfl, rfl, rfl, rfl⟩
 obtain ⟨d', h1, _, h3, _⟩ := fmt_up (s := 0) (d := Dk.new 2050) (B := 3) (n := n) (ep := 3) hu n5 n2 (by show 2 + n ≤ (List.replicate 2050 (List.replicate 128 0)).length; rw [List.length_replicate]; omega) (by decide) ⟨by decide, by decide⟩
 exact ⟨h1, d', h3⟩

end Wl
end Go.Proofs.YtkafkdlgflkjgaaGreat
