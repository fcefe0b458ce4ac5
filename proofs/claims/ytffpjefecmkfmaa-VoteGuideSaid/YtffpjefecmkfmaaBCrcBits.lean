/-
  Bits of numbers of 32 and 64 bits, and bytes as numbers: no function of the program is named here. By an AI agent.
-/
import Derived.Test.YtffpjefecmkfmaaBGNats
import Derived.Test.YtffpjefecmkfmaaBCrcMath
import Derived.Laws.BitsAllLaws
namespace Go.Proofs.Ytffpjefecmkfmaa
open Go.RowKit
open Crc

theorem and_one (x : Nat) (h : x < 4294967296) : bits .and .u32 (x : Int) 1 = ((x % 2 : Nat) : Int) := by
  have := u32_and_nat x 1 h (by decide)
  rw [Nat.and_one_is_mod] at this
  exact this

theorem xor_poly (x : Nat) (h : x < 4294967296) : bits .xor .u32 (x : Int) 2197175160 = ((x ^^^ poly : Nat) : Int) := u32_xor_nat x poly h (by decide)

theorem not_u32 (x : Nat) (h : x < 4294967296) : bits .xor .u32 IntKind.u32.max (x : Int) = ((x ^^^ ones : Nat) : Int) := by
  have := u32_xor_nat ones x (by decide) h
  rw [Nat.xor_comm x]
  exact this

theorem u32_unsigned : IntKind.u32.signed = false := rfl

/-- A column's bit, as the code asks for it. -/
theorem bit_ask (n k : Nat) (hn : n < 4294967296) : bits .and .u32 ((n : Int) / 2 ^ k) 1 = if n.testBit k then 1 else 0 := by
  have e : ((n : Int) / 2 ^ k) = ((n / 2 ^ k : Nat) : Int) := by simp
  have hl : n / 2 ^ k < 4294967296 := Nat.lt_of_le_of_lt (Nat.div_le_self _ _) hn
  rw [e, and_one _ hl, Nat.testBit_eq_decide_div_mod_eq]
  rcases Nat.mod_two_eq_zero_or_one (n / 2 ^ k) with h | h <;> rw [h] <;> rfl

theorem times_lt {m : List Nat} (hm : ∀ i, m.getD i 0 < 4294967296) (n : Nat) : ∀ i, times m n i < 4294967296
  | 0 => by rw [times]; decide
  | i + 1 => by
    rw [times]
    refine Nat.xor_lt_two_pow (n := 32) (times_lt hm n i) ?_
    split
    · exact hm i
    · decide

theorem and_one64 (x : Nat) (h : x < 9223372036854775808) : bits .and .i64 (x : Int) 1 = ((x % 2 : Nat) : Int) := by
  show IntKind.i64.wrap ((BitVec.ofInt 64 (x : Int) &&& BitVec.ofInt 64 (1 : Int)).toNat : Int) = _
  have e1 : (BitVec.ofInt 64 (x : Int)).toNat = x := by rw [BitVec.ofInt_natCast, BitVec.toNat_ofNat]; exact Nat.mod_eq_of_lt (by omega)
  have e2 : (BitVec.ofInt 64 (1 : Int)).toNat = 1 := by decide
  rw [BitVec.toNat_and, e1, e2, Nat.and_one_is_mod]
  simp [IntKind.wrap, IntKind.bits, IntKind.signed]
  omega

end Go.Proofs.Ytffpjefecmkfmaa
namespace Go.Proofs.Ytffpjefecmkfmaa
open Go.RowKit
open Crc

theorem and_15 (x : Nat) (h : x < 4294967296) : bits .and .u32 (x : Int) 15 = ((x % 16 : Nat) : Int) := by
  have := u32_and_nat x 15 h (by decide)
  rw [show (15 : Nat) = 2 ^ 4 - 1 from rfl, Nat.and_two_pow_sub_one_eq_mod] at this
  exact this

theorem sh_double (y : Nat) : sh (2 * y) = y := by
  unfold sh
  rw [if_neg (by omega)]
  omega

/-- Half a byte is shifted out: the rest, and what it adds to it. -/
theorem thr_half (x : Nat) : thr 4 x = x / 16 ^^^ thr 4 (x % 16) := by
  have e : x = (2 * (2 * (2 * (2 * (x / 16))))) ^^^ x % 16 := by
    have h := Nat.two_pow_add_eq_or_of_lt (i := 4) (b := x % 16) (by omega) (x / 16)
    have e2 : 2 ^ 4 * (x / 16) + x % 16 = x := by omega
    rw [e2] at h
    apply Nat.eq_of_testBit_eq
    intro j
    have hj := congrArg (Nat.testBit · j) h
    simp only [Nat.testBit_or] at hj
    rw [hj, Nat.testBit_xor, show 2 * (2 * (2 * (2 * (x / 16)))) = 2 ^ 4 * (x / 16) by omega]
    rw [Nat.testBit_two_pow_mul]
    by_cases h4 : 4 ≤ j
    · rw [Nat.testBit_lt_two_pow (x := x % 16) (i := j) (Nat.lt_of_lt_of_le (show x % 16 < 2 ^ 4 by omega) (Nat.pow_le_pow_right (by decide) h4))]
      simp
    · simp [h4]
  have k := congrArg (thr 4) e
  rw [thr_xor] at k
  rw [k]
  congr 1
  show thr 3 (sh _) = _
  rw [sh_double]
  show thr 2 (sh _) = _
  rw [sh_double]
  show thr 1 (sh _) = _
  rw [sh_double]
  show thr 0 (sh _) = _
  rw [sh_double]
  rfl

theorem thr_byte (x : Nat) : thr 8 x = thr 4 (thr 4 x) := thr_add 4 4 x

set_option maxHeartbeats 400000 in
theorem shift_any (n k : Nat) (w : World) (hn : n < 4294967296) (hk : k ≤ 1000000) :
    Calls Try.prog 67 #[.int .u32 n, .int .i64 k] w fun e w' => e = .returned (.int .u32 (thr k n)) ∧ w = w' := by
  go_enter Try.func67, Try.ntmps67
  go_wp2_with fail
  go_loop [0, 7] (fun v i => ∃ j : Nat, j ≤ k ∧ i = .int .i64 j ∧ v = .int .u32 (thr j n)) (fun _ i => k - (intOf i).toNat)
  case atStart => exact ⟨0, Nat.zero_le _, rfl, rfl⟩
  case round =>
    obtain ⟨j, hj, rfl, rfl⟩ := hrel
    by_cases hlt : j < k
    · have hx := thr_lt j hn
      have hs := Lib.hid (thr_succ j n)
      generalize thr j n = x at *
      have h1 := and_one x hx
      have h2 := xor_poly (x / 2) (by omega)
      rw [Int.natCast_ediv, show ((2 : Nat) : Int) = 2 from rfl] at h2
      by_cases ho : x % 2 = 1
      · rw [ho] at h1
        have hv : Hid (sh x = x / 2 ^^^ poly) := by show _ = _; unfold sh; rw [if_pos ho]
        go_wp2_with fail
        exact ⟨⟨j + 1, by omega, by go_num, by rw [hs.out, hv.out]⟩, by simp [intOf]; omega⟩
      · rw [show x % 2 = 0 by omega] at h1
        have hv : Hid (sh x = x / 2) := by show _ = _; unfold sh; rw [if_neg ho]
        go_wp2_with fail
        exact ⟨⟨j + 1, by omega, by go_num, by rw [hs.out, hv.out]; rfl⟩, by simp [intOf]; omega⟩
    · obtain rfl : j = k := by omega
      go_wp2_with fail
      go_ret
      exact ⟨rfl, rfl⟩

/-- The table of half bytes lies in block g. -/
structure Tab (w : World) (g : Nat) : Prop where
  lt : g < w.heap.size
  cell : ∀ i, i < 16 → w.cell? ⟨g, i, none⟩ = some (.int .u32 ((thr 4 i : Nat) : Int))

theorem Tab.chg {w w' : World} {g : Nat} {s : List Nat} (h : Tab w g) (c : Chg s w w') (hs : g ∉ s) : Tab w' g :=
  ⟨Nat.lt_of_lt_of_le h.lt c.size, fun i hi => (c.cell (p := ⟨g, i, none⟩) h.lt hs).trans (h.cell i hi)⟩

set_option maxHeartbeats 400000 in
theorem take_any (g x b : Nat) (w : World) (h : Tab w g) (hx : x < 4294967296) (hb : b < 256) :
    Calls Try.prog 49 #[.pointer (some ⟨g, 0, none⟩), .int .u32 x, .int .u8 b] w fun e w' => e = .returned (.int .u32 (thr 8 (x ^^^ b))) ∧ w = w' := by
  have hxb := u32_xor_nat x b hx (by omega)
  have hyl : x ^^^ b < 4294967296 := Nat.xor_lt_two_pow (n := 32) hx (byte_lt hb)
  have HT := Lib.hid (thr_byte (x ^^^ b))
  have hb0 : (0 : Int) ≤ b := Int.natCast_nonneg _
  have hb1 : (b : Int) < 256 := by omega
  generalize x ^^^ b = y at *
  have h1 := and_15 y hyl
  have c1 := h.cell (y % 16) (by omega)
  have hm0 : (0 : Int) ≤ ((y % 16 : Nat) : Int) := Int.natCast_nonneg _
  have hm1 : ((y % 16 : Nat) : Int) < 16 := by omega
  have HZ := Lib.hid (thr_half y)
  have ht1 := thr_lt 4 (n := y % 16) (by omega)
  have hx1 := u32_xor_nat (y / 16) (thr 4 (y % 16)) (by omega) ht1
  rw [← HZ.out, Int.natCast_ediv, show ((16 : Nat) : Int) = 16 from rfl] at hx1
  have hzl := thr_lt 4 hyl
  generalize thr 4 (y % 16) = p at *
  generalize thr 4 y = z at *
  have h2 := and_15 z hzl
  have c2 := h.cell (z % 16) (by omega)
  have hn0 : (0 : Int) ≤ ((z % 16 : Nat) : Int) := Int.natCast_nonneg _
  have hn1 : ((z % 16 : Nat) : Int) < 16 := by omega
  have HY := Lib.hid (thr_half z)
  have ht2 := thr_lt 4 (n := z % 16) (by omega)
  have hx2 := u32_xor_nat (z / 16) (thr 4 (z % 16)) (by omega) ht2
  rw [← HY.out, Int.natCast_ediv, show ((16 : Nat) : Int) = 16 from rfl] at hx2
  clear HZ h
  generalize thr 4 (z % 16) = q at *
  generalize y % 16 = ym at *
  generalize z % 16 = zm at *
  go_enter Try.func49, Try.ntmps49
  go_wp2_with fail
  go_ret
  exact ⟨by rw [HT.out]; rfl, rfl⟩


/-- A new table, in a block of its own. -/
def Tabled (w : World) (e : Ending) (w' : World) : Prop := ∃ g, e = .returned (.pointer (some ⟨g, 0, none⟩)) ∧ Hid (Tab w' g) ∧ Hid (Chg [] w w') ∧ w.heap.size ≤ g

/-- The columns as far as the k-th are there, the others lie open. -/
structure Upto (w : World) (g n : Nat) (e : TypeId) (f : Nat → Nat) (k : Nat) : Prop where
  blk : ∃ vs : List Value, vs.length = n ∧ Blk w g e vs ∧ ∀ i, i < k → vs[i]? = some (.int .u32 ((f i : Nat) : Int))

theorem Upto.cell {w : World} {g n k : Nat} {e : TypeId} {f : Nat → Nat} (h : Upto w g n e f k) {i : Nat} (hi : i < k) : w.cell? ⟨g, i, none⟩ = some (.int .u32 ((f i : Nat) : Int)) := by
  obtain ⟨vs, _, hb, hv⟩ := h.blk
  exact hb.cell (hv i hi)

theorem Upto.lt {w : World} {g n k : Nat} {e : TypeId} {f : Nat → Nat} (h : Upto w g n e f k) : g < w.heap.size := by
  obtain ⟨vs, _, hb, _⟩ := h.blk
  exact hb.lt

theorem Upto.free {w : World} {g n k : Nat} {e : TypeId} {f : Nat → Nat} (h : Upto w g n e f k) (i : Nat) : w.frozen? ⟨g, i, none⟩ = false := by
  obtain ⟨vs, _, hb, _⟩ := h.blk
  exact hb.free i

theorem Upto.open {w : World} {g n k : Nat} {e : TypeId} {f : Nat → Nat} (h : Upto w g n e f k) {i : Nat} (hi : i < n) : ∃ u, w.cell? ⟨g, i, none⟩ = some u := by
  obtain ⟨vs, hl, hb, _⟩ := h.blk
  exact ⟨_, hb.cell (List.getElem?_eq_getElem (by omega))⟩

theorem Upto.step {w : World} {g n k : Nat} {e : TypeId} {f : Nat → Nat} (h : Upto w g n e f k) (hk : k < n) : Upto (w.setCell ⟨g, k, none⟩ (.int .u32 ((f k : Nat) : Int))) g n e f (k + 1) := by
  obtain ⟨vs, hl, hb, hv⟩ := h.blk
  refine ⟨_, by rw [List.length_set]; exact hl, hb.set k _, fun i hi => ?_⟩
  by_cases hik : i = k
  · subst hik
    rw [List.getElem?_set_self (by omega)]
  · rw [List.getElem?_set_ne (by omega)]
    exact hv i (by omega)

theorem Upto.chg {w w' : World} {g n k : Nat} {e : TypeId} {f : Nat → Nat} {s : List Nat} (h : Upto w g n e f k) (c : Chg s w w') (hs : g ∉ s) : Upto w' g n e f k := by
  obtain ⟨vs, hl, hb, hv⟩ := h.blk
  exact ⟨vs, hl, hb.chg c hs, hv⟩

theorem conv_lit {k : Nat} (hk : k < 4294967296) : IntKind.u32.wrap (k : Int) = (k : Int) := by
  simp [IntKind.wrap, IntKind.bits, IntKind.signed]
  omega

set_option maxHeartbeats 400000 in
set_option maxRecDepth 100000 in
theorem table_any (w : World) : Calls Try.prog 48 #[] w (Tabled w) := by
  go_enter Try.func48, Try.ntmps48
  go_wp2_with fail
  go_loopw [3] (fun i wr => ∃ k : Nat, k ≤ 16 ∧ i = .int .i64 k ∧ Hid (Upto wr w.heap.size 16 124 (thr 4) k) ∧ Hid (Chg [] w wr)) (fun i _ => 16 - (intOf i).toNat)
  case atStart => exact ⟨0, Nat.zero_le _, rfl, ⟨⟨List.replicate 16 (.int .u32 0), rfl, Blk.made w _ _, fun i hi => by omega⟩⟩, (Chg.refl _ _).alloc _⟩
  case round =>
    obtain ⟨k, hk, rfl, U, D⟩ := hrel
    by_cases hlt : k < 16
    · have f1 := U.out.free k
      obtain ⟨u, hu⟩ := U.out.open hlt
      have hk0 : (0 : Int) ≤ k := Int.natCast_nonneg _
      have hk1 : (k : Int) < 16 := by omega
      have ht := shift_any k 4 wr (by omega) (by decide)
      go_wp2_with fail
      refine ht.mono ?_
      rintro e w' ⟨rfl, rfl⟩
      go_wp2_with fail
      exact ⟨⟨k + 1, by omega, by go_num, U.out.step hlt, D.out.setCell (.inr (Nat.le_refl _)) _⟩, by simp [intOf]; omega⟩
    · obtain rfl : k = 16 := by omega
      go_wp2_with fail
      go_ret
      exact ⟨w.heap.size, rfl, ⟨U.out.lt, fun i hi => U.out.cell hi⟩, D, Nat.le_refl _⟩

end Go.Proofs.Ytffpjefecmkfmaa
namespace Go.Proofs.Ytffpjefecmkfmaa
open Go.RowKit
open Crc

set_option maxHeartbeats 1000000 in
set_option maxRecDepth 100000 in
theorem more_any (s : Nat) (v : Value) (xs : List Int) (w : World) (hs : s < 4294967296) (h : Sl w v xs) (hby : By xs) (hbig : xs.length ≤ 140737488355328) :
    Calls Try.prog 44 #[.int .u32 s, v] w fun e w' => e = .returned (.int .u32 (more s (nats xs))) ∧ Hid (Chg [] w w') := by
  have H0 := Lib.hid h
  have HB := Lib.hid hby
  clear h hby
  have hsg := u32_unsigned
  have hm := not_u32 s hs
  go_enter Try.func44, Try.ntmps44
  go_wp2_with fail
  refine (table_any w).mono ?_
  rintro e w1 ⟨t, rfl, T, D, -⟩
  have H : Hid (Sl w1 v xs) := H0.out.chg D.out (fun b _ => by simp)
  obtain ⟨ao, c, rfl⟩ := H.out.slice
  clear H0
  go_wp2_with fail
  clear hm
  go_loop [6, 14] (fun v i => ∃ k : Nat, k ≤ xs.length ∧ i = .int .i64 k ∧ v = .int .u32 (reg (s ^^^ ones) ((nats xs).take k))) (fun _ i => xs.length - (intOf i).toNat)
  case atStart => exact ⟨0, Nat.zero_le _, rfl, rfl⟩
  case round =>
    obtain ⟨k, hk, rfl, rfl⟩ := hrel
    have hr : reg (s ^^^ ones) ((nats xs).take k) < 4294967296 := reg_lt (Nat.xor_lt_two_pow (n := 32) hs (by decide)) (fun b hb => nats_bs HB.out b (List.mem_of_mem_take hb))
    by_cases hlt : k < xs.length
    · have L : ∃ g o, ao = some ⟨g, o, none⟩ ∧ w1.cell? ⟨g, o + k, none⟩ = some (.int .u8 (xs.getD k 0)) := by
        rcases H.out with ⟨rfl, _⟩ | ⟨g, o, c', hv, hb, hc⟩
        · simp at hlt
        · obtain ⟨rfl, rfl⟩ : ao = some ⟨g, o, none⟩ ∧ c = c' := by simpa using hv
          exact ⟨g, o, rfl, hc k hlt⟩
      obtain ⟨g, o, rfl, hcell⟩ := L
      obtain ⟨y, hy, hyl, hyt⟩ := nats_get HB.out hlt
      rw [hy] at hcell
      have HS := Lib.hid (show reg (s ^^^ ones) ((nats xs).take (k + 1)) = thr 8 (reg (s ^^^ ones) ((nats xs).take k) ^^^ y) by rw [hyt, reg_snoc])
      clear hy hyt
      generalize reg (s ^^^ ones) ((nats xs).take k) = x at *
      have ht := take_any t x y w1 T.out hr hyl
      have hk0 : (0 : Int) ≤ k := Int.natCast_nonneg _
      have hk1 : (k : Int) < xs.length := by omega
      go_wp2_with fail
      refine ht.mono ?_
      rintro e w' ⟨rfl, rfl⟩
      go_wp2_with fail
      exact ⟨⟨k + 1, by omega, by go_num, by rw [HS.out]⟩, by simp [intOf]; omega⟩
    · obtain rfl : k = xs.length := by omega
      have hl : (nats xs).length = xs.length := by simp [nats]
      rw [← hl, List.take_length] at hr ⊢
      have HM := Lib.hid (show more s (nats xs) = reg (s ^^^ ones) (nats xs) ^^^ ones from rfl)
      generalize reg (s ^^^ ones) (nats xs) = x at *
      have hm := not_u32 x hr
      rw [hl]
      go_wp2_with fail
      go_ret
      exact ⟨by rw [HM.out]; rfl, D⟩

theorem sum_any (v : Value) (xs : List Int) (w : World) (h : Sl w v xs) (hby : By xs) (hbig : xs.length ≤ 140737488355328) :
    Calls Try.prog 42 #[v] w fun e w' => e = .returned (.int .u32 (sum (nats xs))) ∧ Hid (Chg [] w w') := by
  have hm := more_any 0 v xs w (by decide) h hby hbig
  clear h hby hbig
  go_enter Try.func42, Try.ntmps42
  go_wp2_with fail
  refine hm.mono ?_
  rintro e w' ⟨rfl, C⟩
  go_wp2_with fail
  go_ret
  exact ⟨rfl, C⟩

end Go.Proofs.Ytffpjefecmkfmaa
