/-
  A reader of a record's bytes: where it stands, or that it has failed. By an AI agent.
-/
import Derived.Test.YtkafkdlgflkjgaaGreatBRdNext
import Derived.Test.YtkafkdlgflkjgaaGreatBG
namespace Go.Proofs.YtkafkdlgflkjgaaGreat
open Go.RowKit Crc

/-- A reader of the bytes b that stands at p; or it has failed. -/
def RdAt (W : World) (rb : Nat) (v : Value) (b : List Nat) (p : Nat) (ok : Bool) : Prop :=
 ∃ s : RS, Rd W rb v s ∧ s.xs = ints b ∧ (ok = true → s.bad = 0 ∧ s.pos = p) ∧ (ok = false → s.bad ≠ 0)

theorem RdAt.chg {w w' : World} {t : List Nat} {rb : Nat} {v : Value} {b : List Nat} {p : Nat} {ok : Bool} (h : RdAt w rb v b p ok) (c : Chg t w w') (hb : rb ∉ t) (hv : ∀ k, v.ownBlock = some k → k ∉ t) : RdAt w' rb v b p ok := by
 obtain ⟨s, h1, h2, h3⟩ := h
 exact ⟨s, h1.chg c hb hv, h2, h3⟩

theorem RdAt.lt {w : World} {rb : Nat} {v : Value} {b : List Nat} {p : Nat} {ok : Bool} (h : RdAt w rb v b p ok) : rb < w.heap.size := by
 obtain ⟨s, h1, _⟩ := h
 exact h1.pb.lt

theorem got_cut {s : RS} {b : List Nat} {p n : Nat} (hx : s.xs = ints b) (h0 : s.bad = 0) (hp : s.pos = p) (hn : p + n ≤ b.length) : s.got n = ints (cut b p n) ∧ s.next n = { s with pos := p + n } := by
 have hl : s.pos + n ≤ s.xs.length := by rw [hx, ints_length, hp]; exact hn
 refine ⟨?_, ?_⟩
 ·unfold RS.got
  rw [if_pos h0, if_pos hl, hx, hp]
  unfold cut ints
  rw [List.map_take, List.map_drop]
 ·unfold RS.next
  rw [if_pos h0, if_pos hl, hp]

theorem got_fail {s : RS} (h0 : s.bad ≠ 0) (n : Nat) : s.got n = [] ∧ s.next n = s := by
 refine ⟨?_, ?_⟩
 ·unfold RS.got; rw [if_neg h0]
 ·unfold RS.next; rw [if_neg h0]

theorem leNum_ints : ∀ l : List Nat, leNum (ints l) = ((val l : Nat) : Int)
 | [] => rfl
 | b :: bs => by
   show (b : Int) + 256 * leNum (ints bs) = _
   rw [leNum_ints bs, val]
   omega

theorem nz_none (l : List Nat) : firstNZ (ints l) = none ↔ l = noughts l.length := by
 induction l with
 | nil => exact ⟨fun _ => rfl, fun _ => rfl⟩
 | cons x r ih =>
   show (if (x : Int) = 0 then (firstNZ (ints r)).map (· + 1) else some 0) = none ↔ x :: r = 0 :: noughts r.length
   by_cases hx : x = 0
   ·subst hx
    simp only [Int.ofNat_zero, if_true, Option.map_eq_none_iff, ih, List.cons.injEq, true_and]
   ·have h1 : ¬ (x : Int) = 0 := by omega
    rw [if_neg h1]
    constructor
    ·intro h; cases h
    ·intro h; exact absurd (List.cons.inj h).1 hx

/-- What reading a number tells. -/
def NumAt (k : IntKind) (w : World) (rb : Nat) (v : Value) (b : List Nat) (p n : Nat) (ok : Bool) (e : Ending) (w' : World) : Prop :=
 ∃ x : Nat, e = .returned (.int k (x : Int)) ∧ x < 256 ^ n ∧ (ok = true → x = rd b p n) ∧ Hid (RdAt w' rb v b (p + n) ok) ∧ Hid (Chg [rb] w w')

theorem num_at {w w' : World} {rb : Nat} {v : Value} {b : List Nat} {p n : Nat} {ok : Bool} {s : RS} (hx : s.xs = ints b) (h1 : ok = true → s.bad = 0 ∧ s.pos = p) (h2 : ok = false → s.bad ≠ 0) (hn : p + n ≤ b.length) (hb : Bs b)
 (r : Rd w' rb v (s.next n)) (c : Chg [rb] w w') (k : IntKind) : NumAt k w rb v b p n ok (.returned (.int k (leNum (s.got n)))) w' := by
 rcases ok with _ | _
 ·obtain ⟨g, m⟩ := got_fail (h2 rfl) n
  rw [g]
  rw [m] at r
  exact ⟨0, rfl, Nat.pos_of_ne_zero (fun h => by have := Nat.pow_pos (n := n) (show 0 < 256 by decide); omega), (fun h => by cases h), ⟨s, r, hx, (fun h => by cases h), h2⟩, c⟩
 ·obtain ⟨h0, hp⟩ := h1 rfl
  obtain ⟨g, m⟩ := got_cut hx h0 hp hn
  rw [g, leNum_ints]
  rw [m] at r
  exact ⟨rd b p n, rfl, rd_lt hb p n, fun _ => rfl, ⟨_, r, hx, fun _ => ⟨h0, rfl⟩, (fun h => by cases h)⟩, c⟩

theorem u8_at (rb : Nat) (v : Value) (b : List Nat) (p : Nat) (ok : Bool) (w : World) (h : RdAt w rb v b p ok) (hb : Bs b) (hn : p + 1 ≤ b.length) :
 Calls Tryz.prog 264 #[.pointer (some ⟨rb, 0, none⟩)] w (NumAt .u8 w rb v b p 1 ok) := by
 obtain ⟨s, r, hx, h1, h2⟩ := h
 refine (u8R_any rb v s w r).mono ?_
 rintro e w' ⟨rfl, r', c⟩
 exact num_at hx h1 h2 hn hb r' c _

theorem u32_at (rb : Nat) (v : Value) (b : List Nat) (p : Nat) (ok : Bool) (w : World) (h : RdAt w rb v b p ok) (hb : Bs b) (hn : p + 4 ≤ b.length) :
 Calls Tryz.prog 175 #[.pointer (some ⟨rb, 0, none⟩)] w (NumAt .u32 w rb v b p 4 ok) := by
 obtain ⟨s, r, hx, h1, h2⟩ := h
 refine (u32R_any rb v s w r).mono ?_
 rintro e w' ⟨rfl, r', c⟩
 exact num_at hx h1 h2 hn hb r' c _

theorem u64_at (rb : Nat) (v : Value) (b : List Nat) (p : Nat) (ok : Bool) (w : World) (h : RdAt w rb v b p ok) (hb : Bs b) (hn : p + 8 ≤ b.length) :
 Calls Tryz.prog 233 #[.pointer (some ⟨rb, 0, none⟩)] w (NumAt .u64 w rb v b p 8 ok) := by
 obtain ⟨s, r, hx, h1, h2⟩ := h
 refine (u64R_any rb v s w r).mono ?_
 rintro e w' ⟨rfl, r', c⟩
 exact num_at hx h1 h2 hn hb r' c _

theorem raw_at (rb : Nat) (v : Value) (b : List Nat) (p n : Nat) (ok : Bool) (w : World) (h : RdAt w rb v b p ok) (hn : p + n ≤ b.length) (hb : b.length ≤ 1000) :
 Calls Tryz.prog 231 #[.pointer (some ⟨rb, 0, none⟩), .int .i64 n] w fun e w' => ∃ u, e = .returned u ∧ Hid (RdAt w' rb v b (p + n) ok) ∧ Hid (Chg [rb] w w') := by
 obtain ⟨s, r, hx, h1, h2⟩ := h
 refine (rawR_any rb v s n w r (by omega)).mono ?_
 rintro e w' ⟨u, rfl, _, r', c⟩
 rw [Int.toNat_natCast] at r'
 refine ⟨u, rfl, ?_, c⟩
 rcases ok with _ | _
 ·rw [(got_fail (h2 rfl) n).2] at r'
  exact ⟨s, r', hx, (fun h => by cases h), h2⟩
 ·obtain ⟨h0, hp⟩ := h1 rfl
  rw [(got_cut hx h0 hp hn).2] at r'
  exact ⟨_, r', hx, fun _ => ⟨h0, rfl⟩, (fun h => by cases h)⟩

theorem noughts_at (rb : Nat) (v : Value) (b : List Nat) (p n : Nat) (ok : Bool) (w : World) (h : RdAt w rb v b p ok) (hn : p + n ≤ b.length) (hb : b.length ≤ 1000) :
 Calls Tryz.prog 232 #[.pointer (some ⟨rb, 0, none⟩), .int .i64 n] w fun e w' => e = .returned (.tuple #[]) ∧ Hid (RdAt w' rb v b (p + n) (ok && decide (cut b p n = noughts n))) ∧ Hid (Chg [rb] w w') := by
 obtain ⟨s, r, hx, h1, h2⟩ := h
 refine (noughts_any rb v s n w r (by omega)).mono ?_
 rintro e w' ⟨rfl, r', c⟩
 rw [Int.toNat_natCast] at r'
 refine ⟨rfl, ?_, c⟩
 unfold RS.skip at r'
 rcases ok with _ | _
 ·obtain ⟨g, m⟩ := got_fail (h2 rfl) n
  rw [g] at r'
  simp only [firstNZ] at r'
  rw [m] at r'
  exact ⟨s, r', hx, (fun h => by cases h), h2⟩
 ·obtain ⟨h0, hp⟩ := h1 rfl
  obtain ⟨g, m⟩ := got_cut hx h0 hp hn
  rw [g, m] at r'
  have N := nz_none (cut b p n)
  rw [cut_len hn] at N
  rcases hz : firstNZ (ints (cut b p n)) with _ | i
  ·rw [hz] at r'
   rw [decide_eq_true (N.1 hz)]
   exact ⟨_, r', hx, fun _ => ⟨h0, rfl⟩, (fun h => by cases h)⟩
  ·rw [hz] at r'
   have hne : ¬ cut b p n = noughts n := fun h => by rw [N.2 h] at hz; cases hz
   rw [decide_eq_false hne]
   exact ⟨_, r', hx, (fun h => by cases h), fun _ => by show ¬ (12 : Int) = 0; decide⟩

/-- A reader that has failed skips nothing. -/
theorem noughts_fail (rb : Nat) (v : Value) (b : List Nat) (p : Nat) (n : Int) (w : World) (h : RdAt w rb v b p false) (hn : n ≤ 9223372036854775807) :
 Calls Tryz.prog 232 #[.pointer (some ⟨rb, 0, none⟩), .int .i64 n] w fun e w' => e = .returned (.tuple #[]) ∧ Hid (RdAt w' rb v b p false) ∧ Hid (Chg [rb] w w') := by
 obtain ⟨s, r, hx, h1, h2⟩ := h
 refine (noughts_any rb v s n w r hn).mono ?_
 rintro e w' ⟨rfl, r', c⟩
 refine ⟨rfl, ?_, c⟩
 unfold RS.skip at r'
 obtain ⟨g, m⟩ := got_fail (h2 rfl) n.toNat
 rw [g] at r'
 simp only [firstNZ] at r'
 rw [m] at r'
 exact ⟨s, r', hx, h1, h2⟩

theorem left_at (rb : Nat) (v : Value) (b : List Nat) (p : Nat) (ok : Bool) (w : World) (h : RdAt w rb v b p ok) :
 Calls Tryz.prog 234 #[.pointer (some ⟨rb, 0, none⟩)] w fun e w' => ∃ n : Nat, e = .returned (.int .i64 n) ∧ n ≤ b.length ∧ (ok = true → n = b.length - p) ∧ ∃ q, w' = w.drewN q := by
 obtain ⟨s, r, hx, h1, h2⟩ := h
 have hl := r.le
 rw [hx, ints_length] at hl
 refine (leftR_any rb v s w r).mono ?_
 rintro e w' ⟨rfl, q, rfl⟩
 rw [hx, ints_length]
 refine ⟨b.length - s.pos, ?_, by omega, fun h => ?_, q, rfl⟩
 ·rw [Int.natCast_sub hl]
 ·rw [(h1 h).2]

theorem end_at (rb : Nat) (v : Value) (b : List Nat) (ok : Bool) (w : World) (h : RdAt w rb v b b.length ok) :
 Calls Tryz.prog 235 #[.pointer (some ⟨rb, 0, none⟩)] w fun e w' => ∃ x y : Int, e = .returned (.tuple #[.int .u16 x, .int .i64 y]) ∧ (x = 0 ↔ ok = true) ∧ ∃ q, w' = w.drewN q := by
 obtain ⟨s, r, hx, h1, h2⟩ := h
 refine (endR_any rb v s w r).mono ?_
 rintro e w' ⟨rfl, q, rfl⟩
 refine ⟨_, _, rfl, ?_, q, rfl⟩
 unfold RS.end_
 rcases ok with _ | _
 ·rw [if_neg (h2 rfl)]
  simp [h2 rfl]
 ·obtain ⟨h0, hp⟩ := h1 rfl
  rw [if_pos h0, if_neg (by rw [hx, ints_length]; omega)]
  simp

theorem end_fail (rb : Nat) (v : Value) (b : List Nat) (p : Nat) (w : World) (h : RdAt w rb v b p false) :
 Calls Tryz.prog 235 #[.pointer (some ⟨rb, 0, none⟩)] w fun e w' => ∃ x y : Int, e = .returned (.tuple #[.int .u16 x, .int .i64 y]) ∧ x ≠ 0 ∧ ∃ q, w' = w.drewN q := by
 obtain ⟨s, r, hx, h1, h2⟩ := h
 refine (end_at rb v b false w ⟨s, r, hx, (fun h => by cases h), h2⟩).mono ?_
 rintro e w' ⟨x, y, rfl, hxy, q, rfl⟩
 exact ⟨x, y, rfl, (fun h => by have := hxy.1 h; cases this), q, rfl⟩

end Go.Proofs.YtkafkdlgflkjgaaGreat
