
/-
  The reader of the package le, call by call. By an AI agent.
-/
import Derived.Test.YtffpjefecmkfmaaBPkNew
import Derived.Test.YtffpjefecmkfmaaBLeArith
namespace Go.Proofs.Ytffpjefecmkfmaa
open Go.RowKit

/-- What a reader holds: its bytes, its offset, its error and where that is. -/
structure RS where
  xs : List Int
  pos : Nat
  bad : Int
  wh : Nat

/-- Taking n bytes. -/
def RS.next (s : RS) (n : Nat) : RS :=
  if s.bad = 0 then (if s.pos + n ≤ s.xs.length then { s with pos := s.pos + n } else { s with bad := 11, wh := s.pos }) else s

/-- The bytes that come of it. -/
def RS.got (s : RS) (n : Nat) : List Int :=
  if s.bad = 0 then (if s.pos + n ≤ s.xs.length then (s.xs.drop s.pos).take n else []) else []

/-- A reader at block b; its bytes are the slice v. -/
structure Rd (w : World) (b : Nat) (v : Value) (s : RS) : Prop where
  pb : Blk w b 136 [v, .int .i64 s.pos, .int .u16 s.bad, .int .i64 s.wh]
  sl : Sl w v s.xs
  ne : ∀ k, v.ownBlock = some k → k ≠ b
  le : s.pos ≤ s.xs.length
  top : s.xs.length ≤ 140737488355328
  byt : By s.xs
  bad : s.bad = 0 ∨ s.bad = 11 ∨ s.bad = 12
  wh : s.wh ≤ s.xs.length
  cap : ∀ ao n c, v = .slice ao n c → n ≤ c

theorem Rd.chg {w w' : World} {t : List Nat} {b : Nat} {v : Value} {s : RS} (h : Rd w b v s) (c : Chg t w w') (hb : b ∉ t) (hv : ∀ k, v.ownBlock = some k → k ∉ t) : Rd w' b v s :=
  ⟨h.pb.chg c hb, h.sl.chg c hv, h.ne, h.le, h.top, h.byt, h.bad, h.wh, h.cap⟩

theorem Rd.c0 {w : World} {b : Nat} {v : Value} {s : RS} (h : Rd w b v s) : w.cell? ⟨b, 0, none⟩ = some v := h.pb.cell rfl
theorem Rd.c1 {w : World} {b : Nat} {v : Value} {s : RS} (h : Rd w b v s) : w.cell? ⟨b, 1, none⟩ = some (.int .i64 s.pos) := h.pb.cell rfl
theorem Rd.c2 {w : World} {b : Nat} {v : Value} {s : RS} (h : Rd w b v s) : w.cell? ⟨b, 2, none⟩ = some (.int .u16 s.bad) := h.pb.cell rfl
theorem Rd.c3 {w : World} {b : Nat} {v : Value} {s : RS} (h : Rd w b v s) : w.cell? ⟨b, 3, none⟩ = some (.int .i64 s.wh) := h.pb.cell rfl

set_option maxHeartbeats 400000 in
theorem leftR_cells (b n pos c : Nat) (ao : Option Addr) (w : World) (hn : n ≤ 140737488355328) (hp : pos ≤ n)
    (h0 : w.cell? ⟨b, 0, none⟩ = some (.slice ao n c)) (h1 : w.cell? ⟨b, 1, none⟩ = some (.int .i64 pos)) :
    Calls Try.prog 91 #[.pointer (some ⟨b, 0, none⟩)] w fun e w' => e = .returned (.int .i64 ((n : Int) - pos)) ∧ ∃ q, w' = w.drewN q := by
  go_enter Try.func91, Try.ntmps91
  go_wp2
  go_quiet (fail)
  go_wp2
  go_ret
  exact ⟨rfl, _, rfl⟩

set_option maxHeartbeats 400000 in
theorem fail_cells (b : Nat) (e1 at1 x2 x3 : Int) (w : World)
    (h2 : w.cell? ⟨b, 2, none⟩ = some (.int .u16 x2)) (h3 : w.cell? ⟨b, 3, none⟩ = some (.int .i64 x3)) (f2 : w.frozen? ⟨b, 2, none⟩ = false) (f3 : w.frozen? ⟨b, 3, none⟩ = false) :
    Calls Try.prog 92 #[.pointer (some ⟨b, 0, none⟩), .int .u16 e1, .int .i64 at1] w fun e w' => e = .returned (.tuple #[]) ∧ w' = (w.setCell ⟨b, 2, none⟩ (.int .u16 e1)).setCell ⟨b, 3, none⟩ (.int .i64 at1) := by
  go_enter Try.func92, Try.ntmps92
  go_wp2
  go_end0
  exact ⟨rfl, rfl⟩

/-- What the next n bytes are to whoever asks: a slice of the reader's own. -/
def Nexts (w : World) (b : Nat) (v : Value) (s : RS) (n : Nat) (e : Ending) (w' : World) : Prop :=
  ∃ rv, e = .returned rv ∧ Sl w' rv (s.got n) ∧ (∀ k, rv.ownBlock = some k → v.ownBlock = some k) ∧ Rd w' b v (s.next n) ∧ Chg [b] w w'

set_option maxHeartbeats 400000 in
theorem next_bad (b : Nat) (v : Value) (s : RS) (n : Int) (w : World) (h : Rd w b v s) (h0 : s.bad ≠ 0) :
    Calls Try.prog 87 #[.pointer (some ⟨b, 0, none⟩), .int .i64 n] w (Nexts w b v s n.toNat) := by
  have h2 := h.c2
  have hbb : (s.bad != 0) = true := by simpa using h0
  have H : Hid (Nexts w b v s n.toNat (.returned (.slice none 0 0)) w) := by
    refine ⟨_, rfl, .inl ⟨by unfold RS.got; rw [if_neg h0], _, _, rfl⟩, (fun k hk => by cases hk), ?_, Chg.refl _ _⟩
    unfold RS.next
    rw [if_neg h0]
    exact h
  clear h h0
  go_enter Try.func87, Try.ntmps87
  go_wp2_with fail
  all_goals go_ret
  all_goals exact H.out

set_option maxHeartbeats 400000 in
theorem next_short (b : Nat) (v : Value) (s : RS) (n : Int) (w : World) (h : Rd w b v s) (h0 : s.bad = 0) (hn : (s.xs.length : Int) < s.pos + n) (hn1 : n ≤ 9223372036854775807) :
    Calls Try.prog 87 #[.pointer (some ⟨b, 0, none⟩), .int .i64 n] w (Nexts w b v s n.toNat) := by
  obtain ⟨ao, c, rfl⟩ := h.sl.slice
  have hp := h.le
  have ht := h.top
  have hlt : 0 < n := by omega
  have hleft := leftR_cells b s.xs.length s.pos c ao w h.top h.le h.c0 h.c1
  have h0' := h.c0
  have h1 := h.c1
  have h2 := h.c2
  have h3 := h.c3
  rw [h0] at h2
  have f2 := h.pb.free 2
  have f3 := h.pb.free 3
  have hf := fun w (k1 : w.cell? ⟨b, 2, none⟩ = some (.int .u16 0)) (k2 : w.cell? ⟨b, 3, none⟩ = some (.int .i64 s.wh)) (k3 : w.frozen? ⟨b, 2, none⟩ = false) (k4 : w.frozen? ⟨b, 3, none⟩ = false) => fail_cells b 11 s.pos 0 s.wh w k1 k2 k3 k4
  have H : Hid (∀ q, Nexts w b (.slice ao s.xs.length c) s n.toNat (.returned (.slice none 0 0)) (((w.drewN q).setCell ⟨b, 2, none⟩ (.int .u16 11)).setCell ⟨b, 3, none⟩ (.int .i64 s.pos))) := by
    intro q
    refine ⟨_, rfl, .inl ⟨by unfold RS.got; rw [if_pos h0, if_neg (by omega)], _, _, rfl⟩, (fun k hk => by cases hk), ?_, (((Chg.refl _ _).drewN q).setCell (.inl (by simp)) _).setCell (.inl (by simp)) _⟩
    unfold RS.next
    rw [if_pos h0, if_neg (by omega)]
    have hc : Chg [b] w (((w.drewN q).setCell ⟨b, 2, none⟩ (.int .u16 11)).setCell ⟨b, 3, none⟩ (.int .i64 s.pos)) := (((Chg.refl _ _).drewN q).setCell (.inl (by simp)) _).setCell (.inl (by simp)) _
    exact ⟨((h.pb.drewN q).set 2 _).set 3 _, h.sl.chg hc (fun k hk => by simpa using h.ne k hk), h.ne, h.le, h.top, h.byt, .inr (.inl rfl), h.le, h.cap⟩
  clear h h0
  go_enter Try.func87, Try.ntmps87
  go_wp2_with (first
    | (go_at_call 91; refine hleft.mono ?_; rintro e w' ⟨rfl, q, rfl⟩)
    | (go_at_call 92; refine (hf (w.drewN q) h2 h3 f2 f3).mono ?_; rintro e w' ⟨rfl, rfl⟩))

  go_ret
  exact H.out q

set_option maxHeartbeats 400000 in
theorem next_ok (b : Nat) (v : Value) (s : RS) (n : Nat) (w : World) (h : Rd w b v s) (h0 : s.bad = 0) (hn : s.pos + n ≤ s.xs.length) :
    Calls Try.prog 87 #[.pointer (some ⟨b, 0, none⟩), .int .i64 n] w (Nexts w b v s n) := by
  obtain ⟨ao, c, rfl⟩ := h.sl.slice
  have hcap := h.cap _ _ _ rfl
  have hp := h.le
  have ht := h.top
  have hleft := leftR_cells b s.xs.length s.pos c ao w h.top h.le h.c0 h.c1
  have h0' := h.c0
  have h1 := h.c1
  have h2 := h.c2
  rw [h0] at h2
  have f1 := h.pb.free 1
  have H : Hid (∀ q rv, Sl w rv (s.got n) → (∀ k, rv.ownBlock = some k → (Value.slice ao s.xs.length c).ownBlock = some k) → Nexts w b (.slice ao s.xs.length c) s n (.returned rv) ((w.setCell ⟨b, 1, none⟩ (.int .i64 ((s.pos : Int) + n))).drewN q)) := by
    intro q rv hrv hob
    have hc : Chg [b] w ((w.setCell ⟨b, 1, none⟩ (.int .i64 ((s.pos : Int) + n))).drewN q) := ((Chg.refl _ _).setCell (.inl (by simp)) _).drewN q
    refine ⟨_, rfl, hrv.chg hc (fun k hk => by simpa using h.ne k (hob k hk)), hob, ?_, hc⟩
    unfold RS.next
    rw [if_pos h0, if_pos hn]
    refine ⟨?_, h.sl.chg hc (fun k hk => by simpa using h.ne k hk), h.ne, hn, h.top, h.byt, h.bad, h.wh, h.cap⟩
    have := (h.pb.set 1 (.int .i64 ((s.pos : Int) + n))).drewN q
    simpa using this
  have HS := Lib.hid h.sl
  have HG := Lib.hid (show s.got n = (s.xs.drop s.pos).take n by unfold RS.got; rw [if_pos h0, if_pos hn])
  clear h h0
  go_enter Try.func87, Try.ntmps87
  go_wp2_with (go_at_call 91; refine hleft.mono ?_; rintro e w' ⟨rfl, q, rfl⟩)
  go_quiet (fail)
  have HC := Lib.hid (HS.out.cut s.pos n hn hcap)
  have HK := Lib.hid (fun k => cut_own (ao := ao) (c := c) (pos := s.pos) (n := n) (m := s.xs.length) (k := k))
  rw [show s.pos + n - s.pos = n by omega]
  generalize (if c = s.pos then ao else Option.map (fun x => x.add s.pos) ao) = ra at HC HK ⊢
  go_wp2
  go_ret
  have := H.out (q + nq) _ (by rw [HG.out]; exact HC.out) HK.out
  rw [← drewN_store] at this
  exact this

set_option maxHeartbeats 400000 in
theorem next_neg (b : Nat) (v : Value) (s : RS) (n : Int) (w : World) (h : Rd w b v s) (h0 : s.bad = 0) (hn : n < 0) :
    Calls Try.prog 87 #[.pointer (some ⟨b, 0, none⟩), .int .i64 n] w (Nexts w b v s 0) := by
  obtain ⟨ao, c, rfl⟩ := h.sl.slice
  have hcap := h.cap _ _ _ rfl
  have hp := h.le
  have ht := h.top
  have hleft := leftR_cells b s.xs.length s.pos c ao w h.top h.le h.c0 h.c1
  have h0' := h.c0
  have h1 := h.c1
  have h2 := h.c2
  rw [h0] at h2
  have f1 := h.pb.free 1
  have H : Hid (∀ q rv, Sl w rv (s.got 0) → (∀ k, rv.ownBlock = some k → (Value.slice ao s.xs.length c).ownBlock = some k) → Nexts w b (.slice ao s.xs.length c) s 0 (.returned rv) ((w.setCell ⟨b, 1, none⟩ (.int .i64 (s.pos : Int))).drewN q)) := by
    intro q rv hrv hob
    have hc : Chg [b] w ((w.setCell ⟨b, 1, none⟩ (.int .i64 (s.pos : Int))).drewN q) := ((Chg.refl _ _).setCell (.inl (by simp)) _).drewN q
    refine ⟨_, rfl, hrv.chg hc (fun k hk => by simpa using h.ne k (hob k hk)), hob, ?_, hc⟩
    unfold RS.next
    rw [if_pos h0, if_pos (by omega)]
    refine ⟨?_, h.sl.chg hc (fun k hk => by simpa using h.ne k hk), h.ne, hp, h.top, h.byt, h.bad, h.wh, h.cap⟩
    have := (h.pb.set 1 (.int .i64 (s.pos : Int))).drewN q
    simpa using this
  have HS := Lib.hid h.sl
  have HG := Lib.hid (show s.got 0 = (s.xs.drop s.pos).take 0 by unfold RS.got; rw [if_pos h0, if_pos (by omega)])
  have hmx : max n 0 = 0 := by omega
  clear h h0
  go_enter Try.func87, Try.ntmps87
  go_wp2_with (go_at_call 91; refine hleft.mono ?_; rintro e w' ⟨rfl, q, rfl⟩)
  go_quiet (fail)
  have HC := Lib.hid (HS.out.cut s.pos 0 (by omega) hcap)
  have HK := Lib.hid (fun k => cut_own (ao := ao) (c := c) (pos := s.pos) (n := 0) (m := s.xs.length) (k := k))
  try rw [Nat.sub_self]
  generalize (if c = s.pos then ao else Option.map (fun x => x.add s.pos) ao) = ra at HC HK ⊢
  go_wp2
  go_ret
  have := H.out (q + nq) _ (by rw [HG.out]; exact HC.out) HK.out
  rw [← drewN_store] at this
  exact this

/-- The next bytes, whatever is asked. -/
theorem next_any (b : Nat) (v : Value) (s : RS) (n : Int) (w : World) (h : Rd w b v s) (hn1 : n ≤ 9223372036854775807) :
    Calls Try.prog 87 #[.pointer (some ⟨b, 0, none⟩), .int .i64 n] w (Nexts w b v s n.toNat) := by
  by_cases h0 : s.bad = 0
  · by_cases hneg : n < 0
    · rw [show n.toNat = 0 by omega]
      exact next_neg b v s n w h h0 hneg
    · obtain ⟨m, rfl⟩ := Int.eq_ofNat_of_zero_le (show 0 ≤ n by omega)
      by_cases hf : s.pos + m ≤ s.xs.length
      · rw [Int.toNat_natCast]
        exact next_ok b v s m w h h0 hf
      · exact next_short b v s m w h h0 (by omega) hn1
  · exact next_bad b v s n w h h0
end Go.Proofs.Ytffpjefecmkfmaa
namespace Go.Proofs.Ytffpjefecmkfmaa
open Go.RowKit

theorem RS.got_by {s : RS} (h : By s.xs) (n : Nat) : By (s.got n) := by
  unfold RS.got
  by_cases h0 : s.bad = 0
  · rw [if_pos h0]
    by_cases h1 : s.pos + n ≤ s.xs.length
    · rw [if_pos h1]; exact (h.drop _).take _
    · rw [if_neg h1]; exact By.nil
  · rw [if_neg h0]; exact By.nil

theorem RS.got_len (s : RS) (n : Nat) : (s.got n).length ≤ n := by
  unfold RS.got
  by_cases h0 : s.bad = 0
  · rw [if_pos h0]
    by_cases h1 : s.pos + n ≤ s.xs.length
    · rw [if_pos h1]; simp; omega
    · rw [if_neg h1]; simp
  · rw [if_neg h0]; simp

/-- What reading a number tells. -/
def Nums (w : World) (b : Nat) (v : Value) (s : RS) (n : Nat) (e : Ending) (w' : World) : Prop :=
  e = .returned (.int .u64 (leNum (s.got n))) ∧ Rd w' b v (s.next n) ∧ Chg [b] w w'

set_option maxHeartbeats 400000 in
set_option maxRecDepth 100000 in
theorem numberR_any (b : Nat) (v : Value) (s : RS) (n : Nat) (w : World) (h : Rd w b v s) (hn : n ≤ 8) :
    Calls Try.prog 72 #[.pointer (some ⟨b, 0, none⟩), .int .i64 n] w (Nums w b v s n) := by
  have hnext := next_any b v s n w h (by omega)
  rw [Int.toNat_natCast] at hnext
  have hby : By (s.got n) := RS.got_by h.byt n
  have hgl := RS.got_len s n
  clear h
  obtain ⟨xs, hxs⟩ : ∃ xs, s.got n = xs := ⟨_, rfl⟩
  rw [hxs] at hby hgl
  have HX := Lib.hid hxs
  clear hxs
  go_enter Try.func72, Try.ntmps72
  go_wp2_with (go_at_call 87; refine hnext.mono ?_; rintro e w1 ⟨rv, rfl, hsl, hob, hrd, hch⟩; rw [HX.out] at hsl; have HS := Lib.hid hsl; clear hsl; obtain ⟨ao, c, rfl⟩ := HS.out.slice)
  have HR := Lib.hid hrd
  have HC := Lib.hid hch
  clear hrd hch hob
  go_loop [5, 12] (fun t i => ∃ k : Nat, k ≤ xs.length ∧ i = .int .i64 k ∧ t = .int .u64 (leNum (xs.take k))) (fun _ i => xs.length - (intOf i).toNat)
  case atStart => exact ⟨0, Nat.zero_le _, rfl, rfl⟩
  case round =>
    obtain ⟨k, hk, rfl, rfl⟩ := hrel
    have hx0 := (hby.get k).1
    have hx1 := (hby.get k).2
    have HB := Lib.hid hby
    clear hby
    by_cases hlt : k < xs.length
    · have L : ∃ g o, ao = some ⟨g, o, none⟩ ∧ w1.cell? ⟨g, o + k, none⟩ = some (.int .u8 (xs.getD k 0)) := by
        rcases HS.out with ⟨rfl, _⟩ | ⟨g, o, c', hv, hb, hc⟩
        · simp at hlt
        · obtain ⟨rfl, rfl⟩ : ao = some ⟨g, o, none⟩ ∧ c = c' := by simpa using hv
          exact ⟨g, o, rfl, hc k hlt⟩
      obtain ⟨g, o, rfl, hcell⟩ := L
      have hsn : Hid (bits BinOp.or IntKind.u64 (leNum (xs.take k)) (IntKind.u64.wrap (xs.getD k 0 * 2 ^ (8 * k))) = leNum (xs.take (k + 1))) := by
        have hl : (xs.take k).length = k := by simp; omega
        have hr := leNum_range (xs.take k) (HB.out.take k)
        rw [hl] at hr
        have e : xs.take (k + 1) = xs.take k ++ [xs.getD k 0] := by
          rw [List.take_succ_eq_append_getElem hlt]
          simp [List.getD, List.getElem?_eq_getElem hlt]
        show _ = _
        rw [or_byte _ _ k (by omega) hr.1 hr.2 hx0 hx1, e, leNum_snoc, hl]
      generalize xs.getD k 0 = x at *
      go_wp2
      exact ⟨⟨k + 1, by omega, by go_num, by rw [hsn.out]⟩, by simp [intOf]; omega⟩
    · go_wp2
      go_ret
      obtain rfl : k = xs.length := by omega
      exact ⟨by rw [List.take_length, ← HX.out]; rfl, HR.out, HC.out⟩

set_option maxHeartbeats 400000 in
theorem u8R_any (b : Nat) (v : Value) (s : RS) (w : World) (h : Rd w b v s) :
    Calls Try.prog 56 #[.pointer (some ⟨b, 0, none⟩)] w fun e w' => e = .returned (.int .u8 (leNum (s.got 1))) ∧ Rd w' b v (s.next 1) ∧ Chg [b] w w' := by
  have hn := numberR_any b v s 1 w h (by omega)
  have hr := leNum_range _ (RS.got_by h.byt 1)
  have hl := RS.got_len s 1
  have hp : (2 : Int) ^ (8 * (s.got 1).length) ≤ 2 ^ (8 * 1) := pow2_le (by omega)
  have e : (2 : Int) ^ (8 * 1) = 255 + 1 := by decide
  have h0 : 0 ≤ leNum (s.got 1) := hr.1
  have h1 : leNum (s.got 1) ≤ 255 := by omega
  clear h hr hl hp e
  generalize hx : leNum (s.got 1) = x at *
  have HX := Lib.hid hx
  clear hx
  go_enter Try.func56, Try.ntmps56
  go_wp2_with (go_at_call 72; refine hn.mono ?_; rintro e w' ⟨he, hp, hc⟩; rw [HX.out] at he; subst he)
  go_ret
  exact ⟨rfl, hp, hc⟩

set_option maxHeartbeats 400000 in
theorem u32R_any (b : Nat) (v : Value) (s : RS) (w : World) (h : Rd w b v s) :
    Calls Try.prog 65 #[.pointer (some ⟨b, 0, none⟩)] w fun e w' => e = .returned (.int .u32 (leNum (s.got 4))) ∧ Rd w' b v (s.next 4) ∧ Chg [b] w w' := by
  have hn := numberR_any b v s 4 w h (by omega)
  have hr := leNum_range _ (RS.got_by h.byt 4)
  have hl := RS.got_len s 4
  have hp : (2 : Int) ^ (8 * (s.got 4).length) ≤ 2 ^ (8 * 4) := pow2_le (by omega)
  have e : (2 : Int) ^ (8 * 4) = 4294967295 + 1 := by decide
  have h0 : 0 ≤ leNum (s.got 4) := hr.1
  have h1 : leNum (s.got 4) ≤ 4294967295 := by omega
  clear h hr hl hp e
  generalize hx : leNum (s.got 4) = x at *
  have HX := Lib.hid hx
  clear hx
  go_enter Try.func65, Try.ntmps65
  go_wp2_with (go_at_call 72; refine hn.mono ?_; rintro e w' ⟨he, hp, hc⟩; rw [HX.out] at he; subst he)
  go_ret
  exact ⟨rfl, hp, hc⟩

set_option maxHeartbeats 400000 in
theorem u64R_any (b : Nat) (v : Value) (s : RS) (w : World) (h : Rd w b v s) :
    Calls Try.prog 53 #[.pointer (some ⟨b, 0, none⟩)] w fun e w' => e = .returned (.int .u64 (leNum (s.got 8))) ∧ Rd w' b v (s.next 8) ∧ Chg [b] w w' := by
  have hn := numberR_any b v s 8 w h (by omega)
  have hr := leNum_range _ (RS.got_by h.byt 8)
  have hl := RS.got_len s 8
  have hp : (2 : Int) ^ (8 * (s.got 8).length) ≤ 2 ^ (8 * 8) := pow2_le (by omega)
  have e : (2 : Int) ^ (8 * 8) = 18446744073709551615 + 1 := by decide
  have h0 : 0 ≤ leNum (s.got 8) := hr.1
  have h1 : leNum (s.got 8) ≤ 18446744073709551615 := by omega
  clear h hr hl hp e
  generalize hx : leNum (s.got 8) = x at *
  have HX := Lib.hid hx
  clear hx
  go_enter Try.func53, Try.ntmps53
  go_wp2_with (go_at_call 72; refine hn.mono ?_; rintro e w' ⟨he, hp, hc⟩; rw [HX.out] at he; subst he)
  go_ret
  exact ⟨rfl, hp, hc⟩

end Go.Proofs.Ytffpjefecmkfmaa
namespace Go.Proofs.Ytffpjefecmkfmaa
open Go.RowKit

/-- A new reader, in memory of its own. -/
def Red (w : World) (xs : List Int) (e : Ending) (w' : World) : Prop := ∃ b v, e = .returned (.pointer (some ⟨b, 0, none⟩)) ∧ Rd w' b v ⟨xs, 0, 0, 0⟩ ∧ Chg [] w w' ∧ w.heap.size ≤ b ∧ (∀ k, v.ownBlock = some k → w.heap.size ≤ k ∧ k < w'.heap.size)

/-- The bytes that Raw hands out are the asker's own. -/
def Raws (w : World) (b : Nat) (v : Value) (s : RS) (n : Nat) (e : Ending) (w' : World) : Prop :=
  ∃ rv, e = .returned rv ∧ w'.ownsRow w.heap.size 5 1 rv (s.got n).length ((s.got n).map (Value.int .u8)) ∧ Rd w' b v (s.next n) ∧ Chg [b] w w'

theorem ownsRow_base {w : World} {B B' : Nat} {e : TypeId} {size : Nat} {v : Value} {n : Nat} {xs : List Value} (h : w.ownsRow B e size v n xs) (hb : B' ≤ B) : w.ownsRow B' e size v n xs := by
  refine ⟨h.1, ?_⟩
  rcases h.2 with h | ⟨g, cap, cur, h1, h2, h3⟩
  · exact .inl h
  · exact .inr ⟨g, cap, cur, h1, by omega, h3⟩

set_option maxHeartbeats 400000 in
theorem rawR_any (b : Nat) (v : Value) (s : RS) (n : Int) (w : World) (h : Rd w b v s) (hn1 : n ≤ 9223372036854775807) :
    Calls Try.prog 82 #[.pointer (some ⟨b, 0, none⟩), .int .i64 n] w (Raws w b v s n.toNat) := by
  have hnext := next_any b v s n w h hn1
  have hcl := fun rv w1 (k : Sl w1 rv (s.got n.toNat)) => clone_any rv (s.got n.toNat) w1 k (by
    have h1 := h.top
    have h2 := h.le
    unfold RS.got
    by_cases h0 : s.bad = 0
    · rw [if_pos h0]
      by_cases h3 : s.pos + n.toNat ≤ s.xs.length
      · rw [if_pos h3]; simp; omega
      · rw [if_neg h3]; simp
    · rw [if_neg h0]; simp)
  have hlt := h.pb.lt
  clear h
  go_enter Try.func82, Try.ntmps82
  go_wp2_with (first
    | (go_at_call 87; refine hnext.mono ?_; rintro e w1 ⟨rv, rfl, hsl, hob, hrd, hch⟩)
    | (go_at_call 66; refine (hcl rv w1 hsl).mono ?_; rintro e w2 ⟨v2, rfl, hv2, hc2⟩))
  go_ret
  exact ⟨v2, rfl, ownsRow_base hv2 hch.size, hrd.chg hc2 (by simp) (by simp), hch.trans (hc2.mono (by simp))⟩

theorem RS.got_bad {s : RS} {n : Nat} (h : s.got n ≠ []) : s.bad = 0 ∧ s.pos + n ≤ s.xs.length := by
  unfold RS.got at h
  by_cases h0 : s.bad = 0
  · rw [if_pos h0] at h
    by_cases h3 : s.pos + n ≤ s.xs.length
    · exact ⟨h0, h3⟩
    · rw [if_neg h3] at h; exact absurd rfl h
  · rw [if_neg h0] at h; exact absurd rfl h

end Go.Proofs.Ytffpjefecmkfmaa
namespace Go.Proofs.Ytffpjefecmkfmaa
open Go.RowKit

/-- The place of the first byte that is not 0. -/
def firstNZ : List Int → Option Nat
  | [] => none
  | x :: r => if x = 0 then (firstNZ r).map (· + 1) else some 0

theorem firstNZ_none : ∀ (xs : List Int), (∀ j, j < xs.length → xs.getD j 0 = 0) → firstNZ xs = none
  | [], _ => rfl
  | x :: r, h => by
    have h0 : x = 0 := h 0 (by simp)
    rw [firstNZ, if_pos h0, firstNZ_none r (fun j hj => h (j + 1) (by simpa using hj))]
    rfl

theorem firstNZ_some : ∀ (xs : List Int) (k : Nat), k < xs.length → (∀ j, j < k → xs.getD j 0 = 0) → xs.getD k 0 ≠ 0 → firstNZ xs = some k
  | [], k, h, _, _ => absurd h (by simp)
  | x :: r, 0, _, _, hx => by rw [firstNZ, if_neg (by simpa using hx)]
  | x :: r, k + 1, h, hz, hx => by
    have h0 : x = 0 := hz 0 (by omega)
    rw [firstNZ, if_pos h0, firstNZ_some r k (by simpa using h) (fun j hj => hz (j + 1) (by omega)) (by simpa using hx)]
    rfl

/-- Skipping n noughts. -/
def RS.skip (s : RS) (n : Nat) : RS :=
  match firstNZ (s.got n) with
  | none => s.next n
  | some i => { s with bad := 12, wh := s.pos + i }

theorem leftR_any (b : Nat) (v : Value) (s : RS) (w : World) (h : Rd w b v s) :
    Calls Try.prog 91 #[.pointer (some ⟨b, 0, none⟩)] w fun e w' => e = .returned (.int .i64 ((s.xs.length : Int) - s.pos)) ∧ ∃ q, w' = w.drewN q := by
  obtain ⟨ao, c, rfl⟩ := h.sl.slice
  exact leftR_cells b _ _ c ao w h.top h.le h.c0 h.c1

/-- What End tells. -/
def RS.end_ (s : RS) : Int × Nat := if s.bad = 0 then (if s.pos < s.xs.length then (13, s.pos) else (0, s.wh)) else (s.bad, s.wh)

/-- What Noughts does. -/
def Skips (w : World) (b : Nat) (v : Value) (s : RS) (n : Nat) (e : Ending) (w' : World) : Prop :=
  e = .returned (.tuple #[]) ∧ Rd w' b v (s.skip n) ∧ Chg [b] w w'

end Go.Proofs.Ytffpjefecmkfmaa
