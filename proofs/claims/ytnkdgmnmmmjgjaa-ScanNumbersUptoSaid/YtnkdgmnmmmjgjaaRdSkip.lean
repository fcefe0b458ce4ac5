/-
  A reader skips noughts, and is at its end. By an AI agent.
-/
import Derived.Test.YtnkdgmnmmmjgjaaRdRaw
namespace Go.Proofs.Ytnkdgmnmmmjgjaa
open Go.RowKit

/-- The place of the first byte that is not 0. -/
def firstNZ : List Int → Option Nat
  | [] => none
  | x :: r => if x = 0 then (firstNZ r).map (· + 1) else some 0

theorem firstNZ_none : ∀ (xs : List Int), (∀ j, j < xs.length → xs.getD j 0 = 0) → firstNZ xs = none
  | [], _ => rfl
  | x :: r, h => by
    have h0 : x = 0 := h 0 (by simp)
    rw [firstNZ, if_pos h0, firstNZ_none r (fun j hj => h (j + 1) (by simpa using hj))]
    rfl

theorem firstNZ_some : ∀ (xs : List Int) (k : Nat), k < xs.length → (∀ j, j < k → xs.getD j 0 = 0) → xs.getD k 0 ≠ 0 → firstNZ xs = some k
  | [], k, h, _, _ => absurd h (by simp)
  | x :: r, 0, _, _, hx => by rw [firstNZ, if_neg (by simpa using hx)]
  | x :: r, k + 1, h, hz, hx => by
    have h0 : x = 0 := hz 0 (by omega)
    rw [firstNZ, if_pos h0, firstNZ_some r k (by simpa using h) (fun j hj => hz (j + 1) (by omega)) (by simpa using hx)]
    rfl

/-- Skipping n noughts. -/
def RS.skip (s : RS) (n : Nat) : RS :=
  match firstNZ (s.got n) with
  | none => s.next n
  | some i => { s with bad := 12, wh := s.pos + i }

theorem leftR_any (b : Nat) (v : Value) (s : RS) (w : World) (h : Rd w b v s) :
    Calls Try.prog 75 #[.pointer (some ⟨b, 0, none⟩)] w fun e w' => e = .returned (.int .i64 ((s.xs.length : Int) - s.pos)) ∧ ∃ q, w' = w.drewN q := by
  obtain ⟨ao, c, rfl⟩ := h.sl.slice
  exact leftR_cells b _ _ c ao w h.top h.le h.c0 h.c1

set_option maxHeartbeats 400000 in
theorem errR_any (b : Nat) (v : Value) (s : RS) (w : World) (h : Rd w b v s) :
    Calls Try.prog 80 #[.pointer (some ⟨b, 0, none⟩)] w fun e w' => e = .returned (.tuple #[.int .u16 s.bad, .int .i64 s.wh]) ∧ ∃ q, w' = w.drewN q := by
  have h2 := h.c2
  have h3 := h.c3
  clear h
  go_enter Try.func80, Try.ntmps80
  go_wp2
  go_quiet (fail)
  go_wp2
  go_ret2
  exact ⟨rfl, _, rfl⟩

/-- What End tells. -/
def RS.end_ (s : RS) : Int × Nat := if s.bad = 0 then (if s.pos < s.xs.length then (13, s.pos) else (0, s.wh)) else (s.bad, s.wh)

set_option maxHeartbeats 400000 in
theorem endR_any (b : Nat) (v : Value) (s : RS) (w : World) (h : Rd w b v s) :
    Calls Try.prog 76 #[.pointer (some ⟨b, 0, none⟩)] w fun e w' => e = .returned (.tuple #[.int .u16 s.end_.1, .int .i64 s.end_.2]) ∧ ∃ q, w' = w.drewN q := by
  have hleft := leftR_any b v s w h
  have herr := fun q => errR_any b v s (w.drewN q) (h.chg (t := []) ((Chg.refl _ _).drewN q) (by simp) (by simp))
  have hp := h.le
  have ht := h.top
  have h1 := h.c1
  have h2 := h.c2
  clear h
  unfold RS.end_
  by_cases h0 : s.bad = 0
  · rw [if_pos h0]
    rw [h0] at h2
    by_cases hlt : s.pos < s.xs.length
    · rw [if_pos hlt]
      clear herr
      have H0 := Lib.hid h0
      clear h0
      have hd : decide ((0 : Int) < (s.xs.length : Int) - s.pos) = true := decide_eq_true (by omega)
      go_enter Try.func76, Try.ntmps76
      go_wp2_with (go_at_call 75; refine hleft.mono ?_; rintro e w' ⟨rfl, q, rfl⟩)
      go_quiet (fail)
      go_wp2
      go_ret2
      exact ⟨rfl, q + nq, by simp only [World.drewN, Nat.add_assoc]⟩
    · rw [if_neg hlt]
      have hd : decide ((0 : Int) < (s.xs.length : Int) - s.pos) = false := decide_eq_false (by omega)
      rw [h0] at herr
      have H0 := Lib.hid h0
      clear h0
      go_enter Try.func76, Try.ntmps76
      go_wp2_with (first
        | (go_at_call 75; refine hleft.mono ?_; rintro e w' ⟨rfl, q, rfl⟩)
        | (go_at_call 80; refine (herr q).mono ?_; rintro e w' ⟨rfl, q2, rfl⟩))
      go_ret2
      exact ⟨rfl, _, rfl⟩
  · rw [if_neg h0]
    have hbb : (s.bad == 0) = false := by simpa using h0
    have H0 := Lib.hid h0
    clear h0 hleft
    go_enter Try.func76, Try.ntmps76
    go_wp2_with (go_at_call 80; refine (herr 0).mono ?_; rintro e w' ⟨rfl, q2, rfl⟩)
    go_ret2
    exact ⟨rfl, q2, rfl⟩

/-- What Noughts does. -/
def Skips (w : World) (b : Nat) (v : Value) (s : RS) (n : Nat) (e : Ending) (w' : World) : Prop :=
  e = .returned (.tuple #[]) ∧ Rd w' b v (s.skip n) ∧ Chg [b] w w'

set_option maxHeartbeats 400000 in
set_option maxRecDepth 100000 in
theorem noughts_any (b : Nat) (v : Value) (s : RS) (n : Int) (w : World) (h : Rd w b v s) (hn1 : n ≤ 9223372036854775807) :
    Calls Try.prog 70 #[.pointer (some ⟨b, 0, none⟩), .int .i64 n] w (Skips w b v s n.toNat) := by
  have hnext := next_any b v s n w h hn1
  have h1 := h.c1
  obtain ⟨xs, hxs⟩ : ∃ xs, s.got n.toNat = xs := ⟨_, rfl⟩
  have HX := Lib.hid hxs
  have hlen : s.pos + xs.length ≤ 140737488355328 := by
    have h1 := h.top
    have h2 := h.le
    rw [← hxs]
    unfold RS.got
    by_cases h0 : s.bad = 0
    · rw [if_pos h0]
      by_cases h3 : s.pos + n.toNat ≤ s.xs.length
      · rw [if_pos h3]; simp; omega
      · rw [if_neg h3]; simp; omega
    · rw [if_neg h0]; simp; omega
  clear hxs
  have HD := Lib.hid h
  clear h
  go_enter Try.func70, Try.ntmps70
  go_wp2_with (go_at_call 78; refine hnext.mono ?_; rintro e w1 ⟨rv, rfl, hsl, hob, hrd, hch⟩; rw [HX.out] at hsl; have HS := Lib.hid hsl; clear hsl; obtain ⟨ao, c, rfl⟩ := HS.out.slice)
  have hpos0 : (0 : Int) ≤ s.pos := Int.natCast_nonneg _
  have HR := Lib.hid hrd
  have HC := Lib.hid hch
  clear hrd hch hob h1
  go_loop [15] (fun i => ∃ k : Nat, k ≤ xs.length ∧ i = .int .i64 k ∧ Hid (∀ j, j < k → xs.getD j 0 = 0)) (fun i => xs.length - (intOf i).toNat)
  case atStart => exact ⟨0, Nat.zero_le _, rfl, fun j hj => absurd hj (by omega)⟩
  case round =>
    obtain ⟨k, hk, rfl, HZ⟩ := hrel
    by_cases hlt : k < xs.length
    · have L : ∃ g o, ao = some ⟨g, o, none⟩ ∧ w1.cell? ⟨g, o + k, none⟩ = some (.int .u8 (xs.getD k 0)) := by
        rcases HS.out with ⟨rfl, _⟩ | ⟨g, o, c', hv, hb, hc⟩
        · simp at hlt
        · obtain ⟨rfl, rfl⟩ : ao = some ⟨g, o, none⟩ ∧ c = c' := by simpa using hv
          exact ⟨g, o, rfl, hc k hlt⟩
      obtain ⟨g, o, rfl, hcell⟩ := L
      obtain ⟨x, hx⟩ : ∃ x, xs.getD k 0 = x := ⟨_, rfl⟩
      rw [hx] at hcell
      have HXK := Lib.hid hx
      clear hx
      by_cases hx0 : x = 0
      · subst hx0
        go_wp2
        refine ⟨⟨k + 1, by omega, by go_num, fun j hj => ?_⟩, by simp [intOf]; omega⟩
        by_cases e : j = k
        · subst e; exact HXK.out
        · exact HZ.out j (by omega)
      · have hxb : (x != 0) = true := by simpa using hx0
        have HX0 := Lib.hid hx0
        clear hx0
        have hg := Lib.hid (RS.got_bad (s := s) (n := n.toNat) (by rw [HX.out]; intro e; rw [e] at hlt; simp at hlt))
        have hnx : Hid (s.next n.toNat = { s with pos := s.pos + n.toNat }) := by
          show _ = _
          unfold RS.next
          rw [if_pos hg.out.1, if_pos hg.out.2]
        have hpb := HR.out.pb
        rw [hnx.out] at hpb
        have k1 : w1.cell? ⟨b, 1, none⟩ = some (.int .i64 ((s.pos + n.toNat : Nat) : Int)) := hpb.cell rfl
        have f1 := hpb.free 1
        have HPB := Lib.hid hpb
        clear hpb
        have hf := fail_cells b 12 ((s.pos : Int) + k) s.bad s.wh (w1.setCell ⟨b, 1, none⟩ (.int .i64 s.pos)) ((HPB.out.set 1 _).cell rfl) ((HPB.out.set 1 _).cell rfl) ((HPB.out.set 1 _).free 2) ((HPB.out.set 1 _).free 3)
        go_wp2_with (go_at_call 79; refine hf.mono ?_; rintro e w' ⟨rfl, rfl⟩)
        go_end0
        have hc : Chg [b] w1 (((w1.setCell ⟨b, 1, none⟩ (.int .i64 s.pos)).setCell ⟨b, 2, none⟩ (.int .u16 12)).setCell ⟨b, 3, none⟩ (.int .i64 ((s.pos : Int) + k))) := (((Chg.refl _ _).setCell (.inl (by simp)) _).setCell (.inl (by simp)) _).setCell (.inl (by simp)) _
        have hfn : firstNZ (s.got n.toNat) = some k := by
          rw [HX.out]
          exact firstNZ_some xs k hlt HZ.out (by rw [HXK.out]; exact HX0.out)
        have hxl : xs.length ≤ n.toNat := by rw [← HX.out]; exact RS.got_len _ _
        have hge := hg.out.2
        refine ⟨rfl, ?_, HC.out.trans hc⟩
        unfold RS.skip
        rw [hfn]
        refine ⟨?_, ?_, HR.out.ne, HD.out.le, HD.out.top, HD.out.byt, .inr (.inr rfl), ?_, HR.out.cap⟩
        · have := ((HPB.out.set 1 (.int .i64 s.pos)).set 2 (.int .u16 12)).set 3 (.int .i64 ((s.pos : Int) + k))
          simpa using this
        · exact HD.out.sl.chg (HC.out.trans hc) (fun k hk => by simpa using HR.out.ne k hk)
        · show s.pos + k ≤ s.xs.length
          omega
    · go_wp2
      go_end0
      obtain rfl : k = xs.length := by omega
      refine ⟨rfl, ?_, HC.out⟩
      unfold RS.skip
      rw [HX.out, firstNZ_none xs HZ.out]
      exact HR.out
end Go.Proofs.Ytnkdgmnmmmjgjaa
