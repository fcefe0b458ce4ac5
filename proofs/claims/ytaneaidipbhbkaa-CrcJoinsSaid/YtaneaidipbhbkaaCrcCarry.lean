/-
  The program's Join. By an AI agent.
-/
import Derived.Test.YtaneaidipbhbkaaCrcJoin
namespace Go.Proofs.Ytaneaidipbhbkaa
open Go.RowKit
open Crc

set_option maxHeartbeats 1000000 in
set_option maxRecDepth 100000 in
theorem carry_any (a n : Nat) (w : World) (ha : a < 4294967296) (hn : n ≤ 9223372036854775807) :
    Calls Try.prog 26 #[.int .u32 a, .int .i64 n] w fun e w' => e = .returned (.int .u32 (thr (8 * n) a)) ∧ Hid (Chg [] w w') := by
  go_enter Try.func26, Try.ntmps26
  go_wp2_with fail
  refine (zero_any w).mono ?_
  rintro e w1 ⟨g, rfl, A, D1, -⟩
  go_wp2_with fail
  go_loopw [0, 1, 5] (fun x q v wr => ∃ (y N kk g : Nat), x = .int .u32 y ∧ q = .int .i64 N ∧ v = .pointer (some ⟨g, 0, none⟩) ∧ y < 4294967296 ∧ N ≤ 9223372036854775807 ∧ Hid (Arr wr g (pows kk)) ∧ Hid (thr (kk * N) y = thr (8 * n) a) ∧ Hid (Chg [] w wr)) (fun _ q _ _ => (intOf q).toNat)
  case atStart => exact ⟨a, n, 8, g, rfl, rfl, rfl, ha, hn, A, rfl, D1⟩
  case round =>
    obtain ⟨y, N, kk, g2, rfl, rfl, rfl, hy, hN, R, T, D⟩ := hrel
    clear A D1
    by_cases h0 : 0 < N
    · have hb1 := and_one64 N (by omega)
      have HH := Lib.hid (halves kk N y)
      have hN0 : (0 : Int) < N := by omega
      rcases Nat.mod_two_eq_zero_or_one N with ho | ho
      · rw [ho] at hb1
        have T2 : Hid (thr (2 * kk * (N / 2)) y = thr (8 * n) a) := by
          have := HH.out
          rw [ho, if_neg (by decide)] at this
          show _ = _
          rw [← this]
          exact T.out
        clear HH T ho
        go_wp2_with fail
        refine (square_any g2 kk _ R.out).mono ?_
        rintro e w2 ⟨g3, rfl, R3, D3, -⟩
        go_wp2_with fail
        exact ⟨⟨y, N / 2, 2 * kk, g3, rfl, by simp, rfl, hy, by omega, R3, T2, D.out.trans D3.out⟩, by simp [intOf]; omega⟩
      · rw [ho] at hb1
        have T2 : Hid (thr (2 * kk * (N / 2)) (thr kk y) = thr (8 * n) a) := by
          have := HH.out
          rw [ho, if_pos rfl] at this
          show _ = _
          rw [← this]
          exact T.out
        have ht := arrTimes_thr g2 kk y wr R.out hy
        have hy2 := thr_lt kk hy
        generalize thr kk y = y2 at *
        clear HH T ho
        go_wp2_with fail
        refine ht.mono ?_
        rintro e w' ⟨rfl, q, rfl⟩
        clear ht
        go_wp2_with fail
        refine (square_any g2 kk _ (R.out.drewN _)).mono ?_
        rintro e w2 ⟨g3, rfl, R3, D3, -⟩
        go_wp2_with fail
        exact ⟨⟨y2, N / 2, 2 * kk, g3, rfl, by simp, rfl, hy2, by omega, R3, T2, (D.out.drewN _).trans D3.out⟩, by simp [intOf]; omega⟩
    · obtain rfl : N = 0 := by omega
      rw [Nat.mul_zero] at T
      have HJ : Hid (thr (8 * n) a = y) := T.out.symm
      go_wp2_with fail
      go_ret
      exact ⟨by rw [HJ.out]; rfl, D⟩

set_option maxRecDepth 100000 in
theorem join_any (a b n : Nat) (w : World) (ha : a < 4294967296) (hb : b < 4294967296) (hn : n ≤ 9223372036854775807) :
    Calls Try.prog 16 #[.int .u32 a, .int .u32 b, .int .i64 n] w fun e w' => e = .returned (.tuple #[.int .u32 (join a b n), .int .u16 0]) ∧ Hid (Chg [] w w') := by
  have hc := carry_any a n w ha hn
  have hl := thr_lt (8 * n) ha
  have HJ : Hid (join a b n = thr (8 * n) a ^^^ b) := rfl
  generalize thr (8 * n) a = y at *
  have hx := u32_xor_nat y b hl hb
  have hn0 : ¬ (n : Int) < 0 := by omega
  go_enter Try.func16, Try.ntmps16
  go_wp2_with fail
  refine hc.mono ?_
  rintro e w1 ⟨rfl, D⟩
  go_wp2_with fail
  go_ret2
  exact ⟨by rw [HJ.out]; rfl, D⟩

theorem join_neg (a b : Nat) (n : Int) (w : World) (hn : n < 0) :
    Calls Try.prog 16 #[.int .u32 a, .int .u32 b, .int .i64 n] w fun e w' => e = .returned (.tuple #[.int .u32 0, .int .u16 1]) ∧ w = w' := by
  go_enter Try.func16, Try.ntmps16
  go_wp2_with fail
  go_ret2
  exact ⟨rfl, rfl⟩

end Go.Proofs.Ytaneaidipbhbkaa
