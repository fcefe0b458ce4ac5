
/-
  The reader's numbers. By an AI agent.
-/
import Derived.Test.YtnkdgmnmmmjgjaaRdNext
import Derived.Test.YtnkdgmnmmmjgjaaLeArith
namespace Go.Proofs.Ytnkdgmnmmmjgjaa
open Go.RowKit

theorem RS.got_by {s : RS} (h : By s.xs) (n : Nat) : By (s.got n) := by
  unfold RS.got
  by_cases h0 : s.bad = 0
  · rw [if_pos h0]
    by_cases h1 : s.pos + n ≤ s.xs.length
    · rw [if_pos h1]; exact (h.drop _).take _
    · rw [if_neg h1]; exact By.nil
  · rw [if_neg h0]; exact By.nil

theorem RS.got_len (s : RS) (n : Nat) : (s.got n).length ≤ n := by
  unfold RS.got
  by_cases h0 : s.bad = 0
  · rw [if_pos h0]
    by_cases h1 : s.pos + n ≤ s.xs.length
    · rw [if_pos h1]; simp; omega
    · rw [if_neg h1]; simp
  · rw [if_neg h0]; simp

/-- What reading a number tells. -/
def Nums (w : World) (b : Nat) (v : Value) (s : RS) (n : Nat) (e : Ending) (w' : World) : Prop :=
  e = .returned (.int .u64 (leNum (s.got n))) ∧ Rd w' b v (s.next n) ∧ Chg [b] w w'

set_option maxHeartbeats 400000 in
set_option maxRecDepth 100000 in
theorem numberR_any (b : Nat) (v : Value) (s : RS) (n : Nat) (w : World) (h : Rd w b v s) (hn : n ≤ 8) :
    Calls Try.prog 77 #[.pointer (some ⟨b, 0, none⟩), .int .i64 n] w (Nums w b v s n) := by
  have hnext := next_any b v s n w h (by omega)
  rw [Int.toNat_natCast] at hnext
  have hby : By (s.got n) := RS.got_by h.byt n
  have hgl := RS.got_len s n
  clear h
  obtain ⟨xs, hxs⟩ : ∃ xs, s.got n = xs := ⟨_, rfl⟩
  rw [hxs] at hby hgl
  have HX := Lib.hid hxs
  clear hxs
  go_enter Try.func77, Try.ntmps77
  go_wp2_with (go_at_call 78; refine hnext.mono ?_; rintro e w1 ⟨rv, rfl, hsl, hob, hrd, hch⟩; rw [HX.out] at hsl; have HS := Lib.hid hsl; clear hsl; obtain ⟨ao, c, rfl⟩ := HS.out.slice)
  have HR := Lib.hid hrd
  have HC := Lib.hid hch
  clear hrd hch hob
  go_loop [5, 12] (fun t i => ∃ k : Nat, k ≤ xs.length ∧ i = .int .i64 k ∧ t = .int .u64 (leNum (xs.take k))) (fun _ i => xs.length - (intOf i).toNat)
  case atStart => exact ⟨0, Nat.zero_le _, rfl, rfl⟩
  case round =>
    obtain ⟨k, hk, rfl, rfl⟩ := hrel
    have hx0 := (hby.get k).1
    have hx1 := (hby.get k).2
    have HB := Lib.hid hby
    clear hby
    by_cases hlt : k < xs.length
    · have L : ∃ g o, ao = some ⟨g, o, none⟩ ∧ w1.cell? ⟨g, o + k, none⟩ = some (.int .u8 (xs.getD k 0)) := by
        rcases HS.out with ⟨rfl, _⟩ | ⟨g, o, c', hv, hb, hc⟩
        · simp at hlt
        · obtain ⟨rfl, rfl⟩ : ao = some ⟨g, o, none⟩ ∧ c = c' := by simpa using hv
          exact ⟨g, o, rfl, hc k hlt⟩
      obtain ⟨g, o, rfl, hcell⟩ := L
      have hsn : Hid (bits BinOp.or IntKind.u64 (leNum (xs.take k)) (IntKind.u64.wrap (xs.getD k 0 * 2 ^ (8 * k))) = leNum (xs.take (k + 1))) := by
        have hl : (xs.take k).length = k := by simp; omega
        have hr := leNum_range (xs.take k) (HB.out.take k)
        rw [hl] at hr
        have e : xs.take (k + 1) = xs.take k ++ [xs.getD k 0] := by
          rw [List.take_succ_eq_append_getElem hlt]
          simp [List.getD, List.getElem?_eq_getElem hlt]
        show _ = _
        rw [or_byte _ _ k (by omega) hr.1 hr.2 hx0 hx1, e, leNum_snoc, hl]
      generalize xs.getD k 0 = x at *
      go_wp2
      exact ⟨⟨k + 1, by omega, by go_num, by rw [hsn.out]⟩, by simp [intOf]; omega⟩
    · go_wp2
      go_ret
      obtain rfl : k = xs.length := by omega
      exact ⟨by rw [List.take_length, ← HX.out]; rfl, HR.out, HC.out⟩

set_option maxHeartbeats 400000 in
theorem u8R_any (b : Nat) (v : Value) (s : RS) (w : World) (h : Rd w b v s) :
    Calls Try.prog 69 #[.pointer (some ⟨b, 0, none⟩)] w fun e w' => e = .returned (.int .u8 (leNum (s.got 1))) ∧ Rd w' b v (s.next 1) ∧ Chg [b] w w' := by
  have hn := numberR_any b v s 1 w h (by omega)
  have hr := leNum_range _ (RS.got_by h.byt 1)
  have hl := RS.got_len s 1
  have hp : (2 : Int) ^ (8 * (s.got 1).length) ≤ 2 ^ (8 * 1) := pow2_le (by omega)
  have e : (2 : Int) ^ (8 * 1) = 255 + 1 := by decide
  have h0 : 0 ≤ leNum (s.got 1) := hr.1
  have h1 : leNum (s.got 1) ≤ 255 := by omega
  clear h hr hl hp e
  generalize hx : leNum (s.got 1) = x at *
  have HX := Lib.hid hx
  clear hx
  go_enter Try.func69, Try.ntmps69
  go_wp2_with (go_at_call 77; refine hn.mono ?_; rintro e w' ⟨he, hp, hc⟩; rw [HX.out] at he; subst he)
  go_ret
  exact ⟨rfl, hp, hc⟩

set_option maxHeartbeats 400000 in
theorem u32R_any (b : Nat) (v : Value) (s : RS) (w : World) (h : Rd w b v s) :
    Calls Try.prog 67 #[.pointer (some ⟨b, 0, none⟩)] w fun e w' => e = .returned (.int .u32 (leNum (s.got 4))) ∧ Rd w' b v (s.next 4) ∧ Chg [b] w w' := by
  have hn := numberR_any b v s 4 w h (by omega)
  have hr := leNum_range _ (RS.got_by h.byt 4)
  have hl := RS.got_len s 4
  have hp : (2 : Int) ^ (8 * (s.got 4).length) ≤ 2 ^ (8 * 4) := pow2_le (by omega)
  have e : (2 : Int) ^ (8 * 4) = 4294967295 + 1 := by decide
  have h0 : 0 ≤ leNum (s.got 4) := hr.1
  have h1 : leNum (s.got 4) ≤ 4294967295 := by omega
  clear h hr hl hp e
  generalize hx : leNum (s.got 4) = x at *
  have HX := Lib.hid hx
  clear hx
  go_enter Try.func67, Try.ntmps67
  go_wp2_with (go_at_call 77; refine hn.mono ?_; rintro e w' ⟨he, hp, hc⟩; rw [HX.out] at he; subst he)
  go_ret
  exact ⟨rfl, hp, hc⟩

set_option maxHeartbeats 400000 in
theorem u64R_any (b : Nat) (v : Value) (s : RS) (w : World) (h : Rd w b v s) :
    Calls Try.prog 74 #[.pointer (some ⟨b, 0, none⟩)] w fun e w' => e = .returned (.int .u64 (leNum (s.got 8))) ∧ Rd w' b v (s.next 8) ∧ Chg [b] w w' := by
  have hn := numberR_any b v s 8 w h (by omega)
  have hr := leNum_range _ (RS.got_by h.byt 8)
  have hl := RS.got_len s 8
  have hp : (2 : Int) ^ (8 * (s.got 8).length) ≤ 2 ^ (8 * 8) := pow2_le (by omega)
  have e : (2 : Int) ^ (8 * 8) = 18446744073709551615 + 1 := by decide
  have h0 : 0 ≤ leNum (s.got 8) := hr.1
  have h1 : leNum (s.got 8) ≤ 18446744073709551615 := by omega
  clear h hr hl hp e
  generalize hx : leNum (s.got 8) = x at *
  have HX := Lib.hid hx
  clear hx
  go_enter Try.func74, Try.ntmps74
  go_wp2_with (go_at_call 77; refine hn.mono ?_; rintro e w' ⟨he, hp, hc⟩; rw [HX.out] at he; subst he)
  go_ret
  exact ⟨rfl, hp, hc⟩

end Go.Proofs.Ytnkdgmnmmmjgjaa
