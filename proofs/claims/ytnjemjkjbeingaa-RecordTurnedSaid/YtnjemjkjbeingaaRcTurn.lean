/-
  A sector in which a run of bits is turned over. By an AI agent.
-/
import Derived.Test.YtnjemjkjbeingaaRcDer
import Derived.Test.YtnjemjkjbeingaaCrcFns
import Derived.Test.YtnjemjkjbeingaaRcPut
import Derived.Laws.OwnMore
namespace Go.Proofs.Ytnjemjkjbeingaa
open Go.RowKit
open Crc

theorem rc_flip_bits (y m : Nat) (hy : y < 256) (hm : m < 8) : bits .xor .u8 (y : Int) ((2 : Int) ^ m % 256) = ((y ^^^ 2 ^ m : Nat) : Int) := by
  have hp : 2 ^ m < 256 := by
    have := Nat.pow_lt_pow_right (a := 2) (by decide) hm
    exact this
  have e : ((2 : Int) ^ m % 256) = ((2 ^ m : Nat) : Int) := by
    have e : ((2 ^ m : Nat) : Int) = (2 : Int) ^ m := by simp
    rw [← e]
    exact Int.emod_eq_of_lt (Int.natCast_nonneg _) (Int.ofNat_lt.2 hp)
  rw [e]
  exact u8_xor_nat y _ hy hp

/-- Where the loop is: k bits of the change looked at. -/
structure TurnedR (w0 w : World) (a : List Nat) (f ch : Nat) (v : Value) (k : Nat) (bs : List Nat) : Prop where
  len : bs.length = a.length
  bytes : Bs bs
  reg : reg ones bs = reg ones a ^^^ thr (8 * a.length - f) (within ch (8 * a.length - f) k)
  kept : within ch (8 * a.length - f) k = 0 → bs = a
  own : w.ownsRow w0.heap.size 5 1 v a.length ((ints bs).map (Value.int .u8))
  chg : Chg [] w0 w

theorem TurnedR.same {w0 w : World} {a : List Nat} {f ch : Nat} {v : Value} {k : Nat} {bs : List Nat} (h : TurnedR w0 w a f ch v k bs) (hn : ¬ (ch.testBit k = true ∧ k < 8 * a.length - f)) : TurnedR w0 w a f ch v (k + 1) bs := by
  have e := within_same (change := ch) (room := 8 * a.length - f) (i := k) hn
  exact ⟨h.len, h.bytes, by rw [e]; exact h.reg, by rw [e]; exact h.kept, h.own, h.chg⟩

theorem TurnedR.turn {w0 w : World} {a : List Nat} {f ch g c n : Nat} {k : Nat} {bs : List Nat} (h : TurnedR w0 w a f ch (.slice (some ⟨g, 0, none⟩) n c) k bs) (hna : a.length = n) (hf : f < 8 * a.length) (hn : ch.testBit k = true ∧ k < 8 * a.length - f) :
    TurnedR w0 (w.setCell ⟨g, (f + k) / 8, none⟩ (.int .u8 ((bs.getD ((f + k) / 8) 0 ^^^ 2 ^ ((f + k) % 8) : Nat) : Int))) a f ch (.slice (some ⟨g, 0, none⟩) n c) (k + 1) (Crc.flip bs (f + k)) := by
  subst hna
  refine ⟨by rw [flip_length]; exact h.len, flip_bs h.bytes _, burst_step h.len hf h.reg hn, fun h0 => absurd h0 (within_turned hn), ?_, h.chg.setCell (.inr (h.own.lt g rfl).1) _⟩
  unfold Crc.flip
  rw [ints_set]
  exact (h.own.stored _ _).1

theorem TurnedR.cell {w0 w : World} {a : List Nat} {f ch g c n : Nat} {k : Nat} {bs : List Nat} (h : TurnedR w0 w a f ch (.slice (some ⟨g, 0, none⟩) n c) k bs) (hna : a.length = n) {j : Nat} (hj : j < a.length) :
    w.cell? ⟨g, j, none⟩ = some (.int .u8 ((bs.getD j 0 : Nat) : Int)) ∧ bs.getD j 0 < 256 ∧ w.frozen? ⟨g, j, none⟩ = false := by
  subst hna
  have hjb : j < bs.length := by rw [h.len]; exact hj
  refine ⟨?_, ?_, h.own.frozenAt j⟩
  · rw [h.own.cellAt j (by omega), List.getElem?_map, ints, List.getElem?_map, List.getElem?_eq_getElem hjb]
    simp [List.getD, List.getElem?_eq_getElem hjb]
  · rw [List.getD_eq_getElem?_getD, List.getElem?_eq_getElem hjb]
    exact h.bytes _ (List.getElem_mem hjb)

/-- What comes out: it is told apart, or nothing has turned. -/
def TurnOf (w : World) (a : List Nat) (e : Ending) (w' : World) : Prop :=
  ∃ x bs, e = .returned x ∧ Hid (w'.ownsRow w.heap.size 5 1 x a.length ((ints bs).map (Value.int .u8))) ∧ Hid (Chg [] w w') ∧ bs.length = a.length ∧ Hid (Bs bs) ∧ Hid (reg ones bs = thr 32 ones → reg ones a = thr 32 ones → bs = a)

set_option maxHeartbeats 2000000 in
set_option maxRecDepth 100000 in
theorem turn_nil (v : Value) (f ch : Nat) (w : World) (h : Sl w v (ints [])) (hf : f < 1024) (hch : ch < 4294967296) :
    Calls Try.prog 34 #[v, .int .i64 f, .int .u32 (ch : Int)] w (TurnOf w []) := by
  have hf0 : (0 : Int) ≤ f := Int.natCast_nonneg _
  have hf1 : (f : Int) < 1024 := by omega
  obtain ⟨i0, hi, hz0, hz1, hz2⟩ := info_parts info_byte
  obtain ⟨ao, c, rfl⟩ := h.slice
  change Sl w (.slice ao 0 c) (ints []) at h
  show Calls _ _ #[.slice ao 0 c, _, _] _ _
  replace h := Lib.hid h
  have L1 : Hid (0 + (ints []).length ≤ maxLen) := by show _ ≤ _; decide
  have L2 : Hid ((0 + (ints []).length) * 1 ≤ 140737488355328) := by show _ ≤ _; decide
  go_enter Try.func34, Try.ntmps34
  go_upto_region 3 with (at_builtin; refine wpList_append_sl _ rfl _ _ 30 rfl w.heap.size 5 i0 (.int .u8 0) 1 Try.underlying30 hi hz0 hz1 hz2 rfl (.slice none 0 0) 0 [] rfl (World.ownsRow_nil _ _ _ _) ao 0 c (ints []) rfl h.out L1.out L2.out (Nat.le_refl _) ?_; intro v1 w1 own1 hg1 hb1)
  have O : Hid (w1.ownsRow w.heap.size 5 1 v1 0 []) := own1.out
  have C0 : Hid (Chg [] w w1) := (Chg.refl _ _).grown hg1.out (fun k hk => by cases hk)
  clear own1 hg1 hb1 hi hz0 hz1 hz2 L1 L2 h
  obtain ⟨o1, c1, rfl⟩ := owns_slice O.out
  go_wp2_with fail
  go_loopw [8] (fun i wr => ∃ (k : Nat), k ≤ 32 ∧ i = .int .i64 k ∧ Hid (Chg [] w1 wr)) (fun i _ => 32 - (intOf i).toNat)
  case atStart => exact ⟨0, Nat.zero_le _, rfl, Chg.refl _ _⟩
  case round =>
    obtain ⟨k, hk, rfl, C⟩ := hrel
    by_cases hlt : k < 32
    · have hb := bit_ask ch k hch
      have hk0 : (0 : Int) ≤ k := Int.natCast_nonneg _
      have hk1 : (k : Int) < 32 := by omega
      have d4 : ¬ (f : Int) + k < 0 := by omega
      by_cases hbit : ch.testBit k = true
      · rw [if_pos hbit] at hb
        go_wp2_with fail
        exact ⟨⟨k + 1, by omega, by go_num, C⟩, by simp [intOf]; omega⟩
      · rw [if_neg hbit] at hb
        go_wp2_with fail
        exact ⟨⟨k + 1, by omega, by go_num, C⟩, by simp [intOf]; omega⟩
    · obtain rfl : k = 32 := by omega
      go_wp2_with fail
      go_ret
      exact ⟨_, [], rfl, owns_chg O.out C.out (by simp), C0.out.trans C.out, rfl, (fun x hx => by cases hx), fun _ _ => rfl⟩

set_option maxHeartbeats 2000000 in
set_option maxRecDepth 100000 in
theorem turn_any (v : Value) (a : List Nat) (f ch : Nat) (w : World) (h : Sl w v (ints a)) (hbs : Bs a) (hl : a.length = 128) (hf : f < 1024) (hch : ch < 4294967296) :
    Calls Try.prog 34 #[v, .int .i64 f, .int .u32 (ch : Int)] w (TurnOf w a) := by
  have hf0 : (0 : Int) ≤ f := Int.natCast_nonneg _
  have hf1 : (f : Int) < 1024 := by omega
  have hL : (ints a).length = 128 := by rw [ints_length, hl]
  have hfl : f < 8 * a.length := by omega
  obtain ⟨i0, hi, hz0, hz1, hz2⟩ := info_parts info_byte
  obtain ⟨ao, c, rfl⟩ := h.slice
  rw [hL] at h ⊢
  replace h := Lib.hid h
  have L1 : Hid (0 + (ints a).length ≤ maxLen) := by show _ ≤ _; rw [hL]; decide
  have L2 : Hid ((0 + (ints a).length) * 1 ≤ 140737488355328) := by show _ ≤ _; rw [hL]; decide
  have HB : Hid (∀ v' w1, w1.ownsRow w.heap.size 5 1 v' (0 + (ints a).length) ([] ++ (ints a).map (Value.int .u8)) → w.grownBy w1 (Value.slice none 0 0).ownBlock → TurnedR w w1 a f ch v' 0 a) := fun v' w1 o g => by
    rw [Nat.zero_add, List.nil_append, ints_length] at o
    exact ⟨rfl, hbs, by rw [within, thr_zero, Nat.xor_zero], fun _ => rfl, o, (Chg.refl _ _).grown g (fun k hk => by cases hk)⟩
  clear hbs
  replace hL := Lib.hid hL
  replace hl := Lib.hid hl
  go_enter Try.func34, Try.ntmps34
  go_upto_region 3 with (at_builtin; refine wpList_append_sl _ rfl _ _ 30 rfl w.heap.size 5 i0 (.int .u8 0) 1 Try.underlying30 hi hz0 hz1 hz2 rfl (.slice none 0 0) 0 [] rfl (World.ownsRow_nil _ _ _ _) ao 128 c (ints a) rfl h.out L1.out L2.out (Nat.le_refl _) ?_; intro v1 w1 own1 hg1 hb1)
  have T0 := Lib.hid (HB.out _ _ own1.out hg1.out)
  clear own1 hg1 hb1 HB hi hz0 hz1 hz2 L1 L2
  have VS : ∃ g c1, v1 = .slice (some ⟨g, 0, none⟩) 128 c1 := by
    have o := T0.out.own
    rw [hl.out] at o
    rcases o.2 with ⟨_, h0⟩ | ⟨g, c1, cur, rfl, _⟩
    · cases h0
    · exact ⟨g, c1, rfl⟩
  obtain ⟨g, c1, rfl⟩ := VS
  go_wp2_with fail
  go_loopw [8] (fun i wr => ∃ (k : Nat) (bs : List Nat), k ≤ 32 ∧ i = .int .i64 k ∧ Hid (TurnedR w wr a f ch (.slice (some ⟨g, 0, none⟩) 128 c1) k bs)) (fun i _ => 32 - (intOf i).toNat)
  case atStart => exact ⟨0, a, Nat.zero_le _, rfl, T0⟩
  case round =>
    obtain ⟨k, bs, hk, rfl, T⟩ := hrel
    clear T0
    by_cases hlt : k < 32
    · have hb := bit_ask ch k hch
      have hk0 : (0 : Int) ≤ k := Int.natCast_nonneg _
      have hk1 : (k : Int) < 32 := by omega
      by_cases hbit : ch.testBit k = true
      · rw [if_pos hbit] at hb
        by_cases hin : f + k < 1024
        · have T2 := Lib.hid (T.out.turn hl.out hfl ⟨hbit, by rw [hl.out]; omega⟩)
          obtain ⟨c0, hy, f0⟩ := T.out.cell hl.out (j := (f + k) / 8) (by rw [hl.out]; omega)
          have d4 : (f : Int) + k < 1024 := by omega
          generalize bs.getD ((f + k) / 8) 0 = y at *
          go_wp2_with fail
          rw [rc_flip_bits y _ hy (Nat.mod_lt _ (by decide))]
          exact ⟨⟨k + 1, Crc.flip bs (f + k), by omega, by go_num, T2⟩, by simp [intOf]; omega⟩
        · have d4 : ¬ (f : Int) + k < 1024 := by omega
          have T2 := Lib.hid (T.out.same (fun h => hin (by have := h.2; rw [hl.out] at this; omega)))
          go_wp2_with fail
          exact ⟨⟨k + 1, bs, by omega, by go_num, T2⟩, by simp [intOf]; omega⟩
      · rw [if_neg hbit] at hb
        have T2 := Lib.hid (T.out.same (fun h => hbit h.1))
        go_wp2_with fail
        exact ⟨⟨k + 1, bs, by omega, by go_num, T2⟩, by simp [intOf]; omega⟩
    · obtain rfl : k = 32 := by omega
      go_wp2_with fail
      go_ret
      refine ⟨_, bs, rfl, T.out.own, T.out.chg, T.out.len, T.out.bytes, fun h1 h2 => T.out.kept ?_⟩
      exact sealed_same h2 h1 T.out.reg

end Go.Proofs.Ytnjemjkjbeingaa
