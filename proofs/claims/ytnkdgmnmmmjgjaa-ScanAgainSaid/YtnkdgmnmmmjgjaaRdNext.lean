
/-
  The reader of the package le, call by call. By an AI agent.
-/
import Derived.Test.YtnkdgmnmmmjgjaaPkFill
namespace Go.Proofs.Ytnkdgmnmmmjgjaa
open Go.RowKit

/-- What a reader holds: its bytes, its offset, its error and where that is. -/
structure RS where
  xs : List Int
  pos : Nat
  bad : Int
  wh : Nat

/-- Taking n bytes. -/
def RS.next (s : RS) (n : Nat) : RS :=
  if s.bad = 0 then (if s.pos + n ≤ s.xs.length then { s with pos := s.pos + n } else { s with bad := 11, wh := s.pos }) else s

/-- The bytes that come of it. -/
def RS.got (s : RS) (n : Nat) : List Int :=
  if s.bad = 0 then (if s.pos + n ≤ s.xs.length then (s.xs.drop s.pos).take n else []) else []

/-- A reader at block b; its bytes are the slice v. -/
structure Rd (w : World) (b : Nat) (v : Value) (s : RS) : Prop where
  pb : Blk w b 129 [v, .int .i64 s.pos, .int .u16 s.bad, .int .i64 s.wh]
  sl : Sl w v s.xs
  ne : ∀ k, v.ownBlock = some k → k ≠ b
  le : s.pos ≤ s.xs.length
  top : s.xs.length ≤ 140737488355328
  byt : By s.xs
  bad : s.bad = 0 ∨ s.bad = 11 ∨ s.bad = 12
  wh : s.wh ≤ s.xs.length
  cap : ∀ ao n c, v = .slice ao n c → n ≤ c

theorem Rd.chg {w w' : World} {t : List Nat} {b : Nat} {v : Value} {s : RS} (h : Rd w b v s) (c : Chg t w w') (hb : b ∉ t) (hv : ∀ k, v.ownBlock = some k → k ∉ t) : Rd w' b v s :=
  ⟨h.pb.chg c hb, h.sl.chg c hv, h.ne, h.le, h.top, h.byt, h.bad, h.wh, h.cap⟩

theorem Rd.c0 {w : World} {b : Nat} {v : Value} {s : RS} (h : Rd w b v s) : w.cell? ⟨b, 0, none⟩ = some v := h.pb.cell rfl
theorem Rd.c1 {w : World} {b : Nat} {v : Value} {s : RS} (h : Rd w b v s) : w.cell? ⟨b, 1, none⟩ = some (.int .i64 s.pos) := h.pb.cell rfl
theorem Rd.c2 {w : World} {b : Nat} {v : Value} {s : RS} (h : Rd w b v s) : w.cell? ⟨b, 2, none⟩ = some (.int .u16 s.bad) := h.pb.cell rfl
theorem Rd.c3 {w : World} {b : Nat} {v : Value} {s : RS} (h : Rd w b v s) : w.cell? ⟨b, 3, none⟩ = some (.int .i64 s.wh) := h.pb.cell rfl

set_option maxHeartbeats 400000 in
theorem leftR_cells (b n pos c : Nat) (ao : Option Addr) (w : World) (hn : n ≤ 140737488355328) (hp : pos ≤ n)
    (h0 : w.cell? ⟨b, 0, none⟩ = some (.slice ao n c)) (h1 : w.cell? ⟨b, 1, none⟩ = some (.int .i64 pos)) :
    Calls Try.prog 75 #[.pointer (some ⟨b, 0, none⟩)] w fun e w' => e = .returned (.int .i64 ((n : Int) - pos)) ∧ ∃ q, w' = w.drewN q := by
  go_enter Try.func75, Try.ntmps75
  go_wp2
  go_quiet (fail)
  go_wp2
  go_ret
  exact ⟨rfl, _, rfl⟩

set_option maxHeartbeats 400000 in
theorem fail_cells (b : Nat) (e1 at1 x2 x3 : Int) (w : World)
    (h2 : w.cell? ⟨b, 2, none⟩ = some (.int .u16 x2)) (h3 : w.cell? ⟨b, 3, none⟩ = some (.int .i64 x3)) (f2 : w.frozen? ⟨b, 2, none⟩ = false) (f3 : w.frozen? ⟨b, 3, none⟩ = false) :
    Calls Try.prog 79 #[.pointer (some ⟨b, 0, none⟩), .int .u16 e1, .int .i64 at1] w fun e w' => e = .returned (.tuple #[]) ∧ w' = (w.setCell ⟨b, 2, none⟩ (.int .u16 e1)).setCell ⟨b, 3, none⟩ (.int .i64 at1) := by
  go_enter Try.func79, Try.ntmps79
  go_wp2
  go_end0
  exact ⟨rfl, rfl⟩

/-- What the next n bytes are to whoever asks: a slice of the reader's own. -/
def Nexts (w : World) (b : Nat) (v : Value) (s : RS) (n : Nat) (e : Ending) (w' : World) : Prop :=
  ∃ rv, e = .returned rv ∧ Sl w' rv (s.got n) ∧ (∀ k, rv.ownBlock = some k → v.ownBlock = some k) ∧ Rd w' b v (s.next n) ∧ Chg [b] w w'

set_option maxHeartbeats 400000 in
theorem next_bad (b : Nat) (v : Value) (s : RS) (n : Int) (w : World) (h : Rd w b v s) (h0 : s.bad ≠ 0) :
    Calls Try.prog 78 #[.pointer (some ⟨b, 0, none⟩), .int .i64 n] w (Nexts w b v s n.toNat) := by
  have h2 := h.c2
  have hbb : (s.bad != 0) = true := by simpa using h0
  have H : Hid (Nexts w b v s n.toNat (.returned (.slice none 0 0)) w) := by
    refine ⟨_, rfl, .inl ⟨by unfold RS.got; rw [if_neg h0], _, _, rfl⟩, (fun k hk => by cases hk), ?_, Chg.refl _ _⟩
    unfold RS.next
    rw [if_neg h0]
    exact h
  clear h h0
  go_enter Try.func78, Try.ntmps78
  go_wp2_with fail
  all_goals go_ret
  all_goals exact H.out

set_option maxHeartbeats 400000 in
theorem next_short (b : Nat) (v : Value) (s : RS) (n : Int) (w : World) (h : Rd w b v s) (h0 : s.bad = 0) (hn : (s.xs.length : Int) < s.pos + n) (hn1 : n ≤ 9223372036854775807) :
    Calls Try.prog 78 #[.pointer (some ⟨b, 0, none⟩), .int .i64 n] w (Nexts w b v s n.toNat) := by
  obtain ⟨ao, c, rfl⟩ := h.sl.slice
  have hp := h.le
  have ht := h.top
  have hlt : 0 < n := by omega
  have hleft := leftR_cells b s.xs.length s.pos c ao w h.top h.le h.c0 h.c1
  have h0' := h.c0
  have h1 := h.c1
  have h2 := h.c2
  have h3 := h.c3
  rw [h0] at h2
  have f2 := h.pb.free 2
  have f3 := h.pb.free 3
  have hf := fun w (k1 : w.cell? ⟨b, 2, none⟩ = some (.int .u16 0)) (k2 : w.cell? ⟨b, 3, none⟩ = some (.int .i64 s.wh)) (k3 : w.frozen? ⟨b, 2, none⟩ = false) (k4 : w.frozen? ⟨b, 3, none⟩ = false) => fail_cells b 11 s.pos 0 s.wh w k1 k2 k3 k4
  have H : Hid (∀ q, Nexts w b (.slice ao s.xs.length c) s n.toNat (.returned (.slice none 0 0)) (((w.drewN q).setCell ⟨b, 2, none⟩ (.int .u16 11)).setCell ⟨b, 3, none⟩ (.int .i64 s.pos))) := by
    intro q
    refine ⟨_, rfl, .inl ⟨by unfold RS.got; rw [if_pos h0, if_neg (by omega)], _, _, rfl⟩, (fun k hk => by cases hk), ?_, (((Chg.refl _ _).drewN q).setCell (.inl (by simp)) _).setCell (.inl (by simp)) _⟩
    unfold RS.next
    rw [if_pos h0, if_neg (by omega)]
    have hc : Chg [b] w (((w.drewN q).setCell ⟨b, 2, none⟩ (.int .u16 11)).setCell ⟨b, 3, none⟩ (.int .i64 s.pos)) := (((Chg.refl _ _).drewN q).setCell (.inl (by simp)) _).setCell (.inl (by simp)) _
    exact ⟨((h.pb.drewN q).set 2 _).set 3 _, h.sl.chg hc (fun k hk => by simpa using h.ne k hk), h.ne, h.le, h.top, h.byt, .inr (.inl rfl), h.le, h.cap⟩
  clear h h0
  go_enter Try.func78, Try.ntmps78
  go_wp2_with (first
    | (go_at_call 75; refine hleft.mono ?_; rintro e w' ⟨rfl, q, rfl⟩)
    | (go_at_call 79; refine (hf (w.drewN q) h2 h3 f2 f3).mono ?_; rintro e w' ⟨rfl, rfl⟩))

  go_ret
  exact H.out q

set_option maxHeartbeats 400000 in
theorem next_ok (b : Nat) (v : Value) (s : RS) (n : Nat) (w : World) (h : Rd w b v s) (h0 : s.bad = 0) (hn : s.pos + n ≤ s.xs.length) :
    Calls Try.prog 78 #[.pointer (some ⟨b, 0, none⟩), .int .i64 n] w (Nexts w b v s n) := by
  obtain ⟨ao, c, rfl⟩ := h.sl.slice
  have hcap := h.cap _ _ _ rfl
  have hp := h.le
  have ht := h.top
  have hleft := leftR_cells b s.xs.length s.pos c ao w h.top h.le h.c0 h.c1
  have h0' := h.c0
  have h1 := h.c1
  have h2 := h.c2
  rw [h0] at h2
  have f1 := h.pb.free 1
  have H : Hid (∀ q rv, Sl w rv (s.got n) → (∀ k, rv.ownBlock = some k → (Value.slice ao s.xs.length c).ownBlock = some k) → Nexts w b (.slice ao s.xs.length c) s n (.returned rv) ((w.setCell ⟨b, 1, none⟩ (.int .i64 ((s.pos : Int) + n))).drewN q)) := by
    intro q rv hrv hob
    have hc : Chg [b] w ((w.setCell ⟨b, 1, none⟩ (.int .i64 ((s.pos : Int) + n))).drewN q) := ((Chg.refl _ _).setCell (.inl (by simp)) _).drewN q
    refine ⟨_, rfl, hrv.chg hc (fun k hk => by simpa using h.ne k (hob k hk)), hob, ?_, hc⟩
    unfold RS.next
    rw [if_pos h0, if_pos hn]
    refine ⟨?_, h.sl.chg hc (fun k hk => by simpa using h.ne k hk), h.ne, hn, h.top, h.byt, h.bad, h.wh, h.cap⟩
    have := (h.pb.set 1 (.int .i64 ((s.pos : Int) + n))).drewN q
    simpa using this
  have HS := Lib.hid h.sl
  have HG := Lib.hid (show s.got n = (s.xs.drop s.pos).take n by unfold RS.got; rw [if_pos h0, if_pos hn])
  clear h h0
  go_enter Try.func78, Try.ntmps78
  go_wp2_with (go_at_call 75; refine hleft.mono ?_; rintro e w' ⟨rfl, q, rfl⟩)
  go_quiet (fail)
  have HC := Lib.hid (HS.out.cut s.pos n hn hcap)
  have HK := Lib.hid (fun k => cut_own (ao := ao) (c := c) (pos := s.pos) (n := n) (m := s.xs.length) (k := k))
  rw [show s.pos + n - s.pos = n by omega]
  generalize (if c = s.pos then ao else Option.map (fun x => x.add s.pos) ao) = ra at HC HK ⊢
  go_wp2
  go_ret
  have := H.out (q + nq) _ (by rw [HG.out]; exact HC.out) HK.out
  rw [← drewN_store] at this
  exact this

set_option maxHeartbeats 400000 in
theorem next_neg (b : Nat) (v : Value) (s : RS) (n : Int) (w : World) (h : Rd w b v s) (h0 : s.bad = 0) (hn : n < 0) :
    Calls Try.prog 78 #[.pointer (some ⟨b, 0, none⟩), .int .i64 n] w (Nexts w b v s 0) := by
  obtain ⟨ao, c, rfl⟩ := h.sl.slice
  have hcap := h.cap _ _ _ rfl
  have hp := h.le
  have ht := h.top
  have hleft := leftR_cells b s.xs.length s.pos c ao w h.top h.le h.c0 h.c1
  have h0' := h.c0
  have h1 := h.c1
  have h2 := h.c2
  rw [h0] at h2
  have f1 := h.pb.free 1
  have H : Hid (∀ q rv, Sl w rv (s.got 0) → (∀ k, rv.ownBlock = some k → (Value.slice ao s.xs.length c).ownBlock = some k) → Nexts w b (.slice ao s.xs.length c) s 0 (.returned rv) ((w.setCell ⟨b, 1, none⟩ (.int .i64 (s.pos : Int))).drewN q)) := by
    intro q rv hrv hob
    have hc : Chg [b] w ((w.setCell ⟨b, 1, none⟩ (.int .i64 (s.pos : Int))).drewN q) := ((Chg.refl _ _).setCell (.inl (by simp)) _).drewN q
    refine ⟨_, rfl, hrv.chg hc (fun k hk => by simpa using h.ne k (hob k hk)), hob, ?_, hc⟩
    unfold RS.next
    rw [if_pos h0, if_pos (by omega)]
    refine ⟨?_, h.sl.chg hc (fun k hk => by simpa using h.ne k hk), h.ne, hp, h.top, h.byt, h.bad, h.wh, h.cap⟩
    have := (h.pb.set 1 (.int .i64 (s.pos : Int))).drewN q
    simpa using this
  have HS := Lib.hid h.sl
  have HG := Lib.hid (show s.got 0 = (s.xs.drop s.pos).take 0 by unfold RS.got; rw [if_pos h0, if_pos (by omega)])
  have hmx : max n 0 = 0 := by omega
  clear h h0
  go_enter Try.func78, Try.ntmps78
  go_wp2_with (go_at_call 75; refine hleft.mono ?_; rintro e w' ⟨rfl, q, rfl⟩)
  go_quiet (fail)
  have HC := Lib.hid (HS.out.cut s.pos 0 (by omega) hcap)
  have HK := Lib.hid (fun k => cut_own (ao := ao) (c := c) (pos := s.pos) (n := 0) (m := s.xs.length) (k := k))
  try rw [Nat.sub_self]
  generalize (if c = s.pos then ao else Option.map (fun x => x.add s.pos) ao) = ra at HC HK ⊢
  go_wp2
  go_ret
  have := H.out (q + nq) _ (by rw [HG.out]; exact HC.out) HK.out
  rw [← drewN_store] at this
  exact this

/-- The next bytes, whatever is asked. -/
theorem next_any (b : Nat) (v : Value) (s : RS) (n : Int) (w : World) (h : Rd w b v s) (hn1 : n ≤ 9223372036854775807) :
    Calls Try.prog 78 #[.pointer (some ⟨b, 0, none⟩), .int .i64 n] w (Nexts w b v s n.toNat) := by
  by_cases h0 : s.bad = 0
  · by_cases hneg : n < 0
    · rw [show n.toNat = 0 by omega]
      exact next_neg b v s n w h h0 hneg
    · obtain ⟨m, rfl⟩ := Int.eq_ofNat_of_zero_le (show 0 ≤ n by omega)
      by_cases hf : s.pos + m ≤ s.xs.length
      · rw [Int.toNat_natCast]
        exact next_ok b v s m w h h0 hf
      · exact next_short b v s m w h h0 (by omega) hn1
  · exact next_bad b v s n w h h0
end Go.Proofs.Ytnkdgmnmmmjgjaa
