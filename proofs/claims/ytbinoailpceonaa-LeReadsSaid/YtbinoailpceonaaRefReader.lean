/-
  The document's reader, call by call. By an AI agent.
-/
import Derived.Test.YtbinoailpceonaaRefRaw
import Derived.Test.YtbinoailpceonaaOpsReads
import Derived.StillTailTactics
import Derived.BigQuiet
namespace Go.Proofs.Ytbinoailpceonaa
open Go.RowKit

/-- The document's reader at block b; its bytes are the slice v. -/
structure Rr (w : World) (b : Nat) (v : Value) (s : RS) : Prop where
  pb : Blk w b 111 [v, .int .i64 s.pos, .int .u16 s.bad, .int .i64 s.wh]
  sl : Sl w v s.xs
  ne : ∀ k, v.ownBlock = some k → k ≠ b
  le : s.pos ≤ s.xs.length
  top : s.xs.length ≤ 140737488355328
  byt : By s.xs
  cap : ∀ ao n c, v = .slice ao n c → n ≤ c
  fine : s.bad = 0 → s.wh = 0

theorem Rr.chg {w w' : World} {t : List Nat} {b : Nat} {v : Value} {s : RS} (h : Rr w b v s) (c : Chg t w w') (hb : b ∉ t) (hv : ∀ k, v.ownBlock = some k → k ∉ t) : Rr w' b v s :=
  ⟨h.pb.chg c hb, h.sl.chg c hv, h.ne, h.le, h.top, h.byt, h.cap, h.fine⟩

theorem Rr.c0 {w : World} {b : Nat} {v : Value} {s : RS} (h : Rr w b v s) : w.cell? ⟨b, 0, none⟩ = some v := h.pb.cell rfl
theorem Rr.c1 {w : World} {b : Nat} {v : Value} {s : RS} (h : Rr w b v s) : w.cell? ⟨b, 1, none⟩ = some (.int .i64 s.pos) := h.pb.cell rfl
theorem Rr.c2 {w : World} {b : Nat} {v : Value} {s : RS} (h : Rr w b v s) : w.cell? ⟨b, 2, none⟩ = some (.int .u16 s.bad) := h.pb.cell rfl
theorem Rr.c3 {w : World} {b : Nat} {v : Value} {s : RS} (h : Rr w b v s) : w.cell? ⟨b, 3, none⟩ = some (.int .i64 s.wh) := h.pb.cell rfl

set_option maxHeartbeats 400000 in
theorem leftRr_cells (b n pos c : Nat) (ao : Option Addr) (w : World) (hn : n ≤ 140737488355328) (hp : pos ≤ n)
    (h0 : w.cell? ⟨b, 0, none⟩ = some (.slice ao n c)) (h1 : w.cell? ⟨b, 1, none⟩ = some (.int .i64 pos)) :
    Calls Try.prog 66 #[.pointer (some ⟨b, 0, none⟩)] w fun e w' => e = .returned (.int .i64 ((n : Int) - pos)) ∧ ∃ q, w' = w.drewN q := by
  go_enter Try.func66, Try.ntmps66
  go_wp2
  go_quiet (fail)
  go_wp2
  go_ret
  exact ⟨rfl, _, rfl⟩

theorem leftRr_any (b : Nat) (v : Value) (s : RS) (w : World) (h : Rr w b v s) :
    Calls Try.prog 66 #[.pointer (some ⟨b, 0, none⟩)] w fun e w' => e = .returned (.int .i64 ((s.xs.length : Int) - s.pos)) ∧ ∃ q, w' = w.drewN q := by
  obtain ⟨ao, c, rfl⟩ := h.sl.slice
  exact leftRr_cells b _ _ c ao w h.top h.le h.c0 h.c1

/-- has: yes, and nothing turns; or no. -/
def Has01 (w : World) (b : Nat) (v : Value) (s : RS) (n : Nat) (e : Ending) (w' : World) : Prop :=
  (s.bad = 0 ∧ s.pos + n ≤ s.xs.length ∧ e = .returned (.bool true) ∧ ∃ q, w' = w.drewN q) ∨
  (¬ (s.bad = 0 ∧ s.pos + n ≤ s.xs.length) ∧ e = .returned (.bool false) ∧ Rr w' b v (s.next n) ∧ Chg [b] w w')

set_option maxHeartbeats 400000 in
theorem has_any (b : Nat) (v : Value) (s : RS) (n : Nat) (w : World) (h : Rr w b v s) (_hn : n ≤ 9223372036854775807) :
    Calls Try.prog 80 #[.pointer (some ⟨b, 0, none⟩), .int .i64 n] w (Has01 w b v s n) := by
  have hleft := leftRr_any b v s w h
  have h1 := h.c1
  have h2 := h.c2
  have h3 := h.c3
  have f2 := h.pb.free 2
  have f3 := h.pb.free 3
  have hle := h.le
  have htop := h.top
  by_cases h0 : s.bad = 0
  · rw [h0] at h2
    by_cases hf : s.pos + n ≤ s.xs.length
    · have H0 := Lib.hid h0
      have hd : decide ((s.xs.length : Int) - s.pos < (n : Int)) = false := decide_eq_false (by omega)
      clear h0 h
      go_enter Try.func80, Try.ntmps80
      go_wp2_with (go_at_call 66; refine hleft.mono ?_; rintro e w' ⟨rfl, q, rfl⟩)
      go_ret
      exact .inl ⟨H0.out, hf, rfl, q, rfl⟩
    · have hd : decide ((s.xs.length : Int) - s.pos < (n : Int)) = true := decide_eq_true (by omega)
      have H : Hid (∀ q, Rr (((w.drewN q).setCell ⟨b, 2, none⟩ (.int .u16 11)).setCell ⟨b, 3, none⟩ (.int .i64 s.pos)) b v (s.next n) ∧ Chg [b] w (((w.drewN q).setCell ⟨b, 2, none⟩ (.int .u16 11)).setCell ⟨b, 3, none⟩ (.int .i64 s.pos))) := by
        intro q
        have hc : Chg [b] w (((w.drewN q).setCell ⟨b, 2, none⟩ (.int .u16 11)).setCell ⟨b, 3, none⟩ (.int .i64 s.pos)) := (((Chg.refl _ _).drewN q).setCell (.inl (by simp)) _).setCell (.inl (by simp)) _
        unfold RS.next
        rw [if_pos h0, if_neg hf]
        exact ⟨⟨((h.pb.drewN q).set 2 _).set 3 _, h.sl.chg hc (fun k hk => by simpa using h.ne k hk), h.ne, h.le, h.top, h.byt, h.cap, fun e => by cases e⟩, hc⟩
      clear h0 h
      go_enter Try.func80, Try.ntmps80
      go_wp2_with (go_at_call 66; refine hleft.mono ?_; rintro e w' ⟨rfl, q, rfl⟩)
      go_ret
      exact .inr ⟨fun hh => hf hh.2, rfl, H.out q⟩
  · have hbb : (s.bad != 0) = true := by simpa using h0
    have H : Hid (Rr w b v (s.next n)) := by
      unfold RS.next
      rw [if_neg h0]
      exact h
    have H0 := Lib.hid h0
    clear h0 h hleft
    go_enter Try.func80, Try.ntmps80
    go_wp2_with fail
    go_ret
    exact .inr ⟨fun hh => H0.out hh.1, rfl, H.out, Chg.refl _ _⟩

/-- The bytes that a call reads are there. -/
theorem RS.got_fit {s : RS} {n : Nat} (h0 : s.bad = 0) (h1 : s.pos + n ≤ s.xs.length) : s.got n = (s.xs.drop s.pos).take n ∧ (s.got n).length = n ∧ ∀ j, j < n → s.xs.getD (s.pos + j) 0 = (s.got n).getD j 0 := by
  have e : s.got n = (s.xs.drop s.pos).take n := by unfold RS.got; rw [if_pos h0, if_pos h1]
  have hl : ((s.xs.drop s.pos).take n).length = n := by simp; omega
  refine ⟨e, by rw [e]; exact hl, fun j hj => ?_⟩
  rw [e]
  simp [List.getD, hj]

theorem RS.got_miss {s : RS} {n : Nat} (h : ¬ (s.bad = 0 ∧ s.pos + n ≤ s.xs.length)) : s.got n = [] := by
  unfold RS.got
  by_cases h0 : s.bad = 0
  · rw [if_pos h0, if_neg (fun h1 => h ⟨h0, h1⟩)]
  · rw [if_neg h0]

/-- Over n bytes that are there. -/
theorem Rr.over {w : World} {b : Nat} {v : Value} {s : RS} {n : Nat} (h : Rr w b v s) (h0 : s.bad = 0) (h1 : s.pos + n ≤ s.xs.length) : Rr (w.setCell ⟨b, 1, none⟩ (.int .i64 ((s.pos : Int) + n))) b v (s.next n) := by
  have hc : Chg [b] w (w.setCell ⟨b, 1, none⟩ (.int .i64 ((s.pos : Int) + n))) := (Chg.refl _ _).setCell (.inl (by simp)) _
  unfold RS.next
  rw [if_pos h0, if_pos h1]
  refine ⟨?_, h.sl.chg hc (fun k hk => by simpa using h.ne k hk), h.ne, h1, h.top, h.byt, h.cap, h.fine⟩
  have := h.pb.set 1 (.int .i64 ((s.pos : Int) + n))
  simpa using this

/-- Where its bytes lie. -/
theorem Rr.byte {w : World} {b : Nat} {ao : Option Addr} {m c : Nat} {s : RS} {k : Nat} (h : Rr w b (.slice ao m c) s) (hk : k < s.xs.length) : ∃ g o, ao = some ⟨g, o, none⟩ ∧ w.cell? ⟨g, o + k, none⟩ = some (.int .u8 (s.xs.getD k 0)) := by
  rcases h.sl with ⟨he, _⟩ | ⟨g, o, c', hv, hb, hc⟩
  · rw [he] at hk; simp at hk
  · obtain ⟨rfl, rfl, rfl⟩ : ao = some ⟨g, o, none⟩ ∧ m = s.xs.length ∧ c = c' := by simpa using hv
    exact ⟨g, o, rfl, hc k hk⟩

/-- What reading a number tells. -/
def NumsR (w : World) (b : Nat) (v : Value) (s : RS) (n : Nat) (e : Ending) (w' : World) : Prop :=
  e = .returned (.int .u64 (leNum (s.got n))) ∧ Rr w' b v (s.next n) ∧ Chg [b] w w'

theorem leNum_drop (xs : List Int) (k : Nat) (h : k < xs.length) : leNum (xs.drop k) = 256 * leNum (xs.drop (k + 1)) + xs.getD k 0 := by
  rw [List.drop_eq_getElem_cons h, leNum]
  simp [List.getD, List.getElem?_eq_getElem h]
  omega

set_option maxHeartbeats 1000000 in
set_option maxRecDepth 100000 in
theorem refNumberR_any (b : Nat) (v : Value) (s : RS) (n : Nat) (w : World) (h : Rr w b v s) (_hn0 : 0 < n) (hn : n ≤ 8) :
    Calls Try.prog 70 #[.pointer (some ⟨b, 0, none⟩), .int .i64 n] w (NumsR w b v s n) := by
  have hh := has_any b v s n w h (by omega)
  obtain ⟨ao, c, rfl⟩ := h.sl.slice
  have hcap := h.cap _ _ _ rfl
  have htop := h.top
  have hby : By (s.got n) := RS.got_by h.byt n
  have H := Lib.hid h
  clear h
  go_enter Try.func70, Try.ntmps70
  go_wp2_with fail
  refine hh.mono ?_
  clear hh
  rintro e w1 (⟨h0, h1, rfl, q, rfl⟩ | ⟨hno, rfl, hr, hc⟩)
  · have HF := Lib.hid (And.intro h0 h1)
    have hg := RS.got_fit h0 h1
    clear h0
    go_wp2_with fail
    have hgl := hg.2.1
    have hgc := hg.2.2
    have HG : Hid (leNum (s.got n) = leNum ((s.got n).drop 0)) := by show _ = _; rw [List.drop_zero]
    have HB := Lib.hid hby
    have HL := Lib.hid hgl
    have HC := Lib.hid hgc
    clear hg hby hgl hgc
    go_loopw [5, 6] (fun t i wr => ∃ k : Nat, k ≤ n ∧ i = .int .i64 ((k : Int) - 1) ∧ t = .int .u64 (leNum ((s.got n).drop k)) ∧ Hid (Rr wr b (.slice ao s.xs.length c) s) ∧ Hid (Chg [b] w wr)) (fun _ i _ => (intOf i + 1).toNat)
    case atStart => exact ⟨n, Nat.le_refl _, rfl, by rw [List.drop_of_length_le (by rw [HL.out]; exact Nat.le_refl _)]; rfl, H.out.chg (t := []) ((Chg.refl _ _).drewN q) (by simp) (by simp), (Chg.refl _ _).drewN q⟩
    case round =>
      obtain ⟨k, hk, rfl, rfl, R, D⟩ := hrel
      match k, hk with
      | 0, _ =>
        have c1 := R.out.c1
        have f1 := R.out.pb.free 1
        rw [show ((0 : Nat) : Int) - 1 = -1 from rfl]
        go_wp2_with fail
        go_ret
        have hcc : Chg [b] wr (wr.setCell ⟨b, 1, none⟩ (.int .i64 ((s.pos : Int) + n))) := (Chg.refl _ _).setCell (.inl (by simp)) _
        exact ⟨by rw [HG.out]; rfl, R.out.over HF.out.1 HF.out.2, D.out.trans hcc⟩
      | k + 1, hk =>
        obtain ⟨g, o, rfl, hcell⟩ := R.out.byte (k := s.pos + k) (by omega)
        have c0 := R.out.c0
        have c1 := R.out.c1
        have hx := HB.out.get k
        rw [HC.out k (by omega)] at hcell
        have hx0 := hx.1
        have hx1 := hx.2
        have hd := leNum_drop (s.got n) k (by rw [HL.out]; omega)
        have hr := leNum_range ((s.got n).drop k) (HB.out.drop k)
        have hr2 := leNum_range ((s.got n).drop (k + 1)) (HB.out.drop (k + 1))
        have hp : (2 : Int) ^ (8 * ((s.got n).drop k).length) ≤ 2 ^ (8 * 8) := pow2_le (by simp only [List.length_drop, HL.out]; omega)
        have e64 : (2 : Int) ^ (8 * 8) = 18446744073709551616 := by decide
        have y0 := hr2.1
        have y1 : 256 * leNum ((s.got n).drop (k + 1)) + (s.got n).getD k 0 ≤ 18446744073709551615 := by omega
        have HD := Lib.hid hd
        clear hd hr hr2 hp e64 hx
        generalize leNum ((s.got n).drop (k + 1)) = y at *
        generalize (s.got n).getD k 0 = x at *
        have hk0 : (0 : Int) ≤ k := Int.natCast_nonneg _
        have hk1 : ((k + 1 : Nat) : Int) - 1 = k := by omega
        rw [hk1]
        go_wp2_with fail
        go_quiet (fail)
        go_wp2_with fail
        exact ⟨⟨k, by omega, by go_num, by rw [HD.out], R.out.chg (t := []) ((Chg.refl _ _).drewN _) (by simp) (by simp), D.out.drewN _⟩, by simp [intOf]⟩
  · have HR := Lib.hid hr
    have HC := Lib.hid hc
    have HG := Lib.hid (RS.got_miss hno)
    clear hr hc hno
    go_wp2_with fail
    go_ret
    exact ⟨by rw [HG.out]; rfl, HR.out, HC.out⟩

end Go.Proofs.Ytbinoailpceonaa
