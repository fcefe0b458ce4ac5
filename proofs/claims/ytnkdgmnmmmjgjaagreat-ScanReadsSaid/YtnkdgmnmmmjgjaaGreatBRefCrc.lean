/-
  The document's checksums. By an AI agent.
-/
import Derived.Test.YtnkdgmnmmmjgjaaGreatBGNats
import Derived.Test.YtnkdgmnmmmjgjaaGreatBCrcBits
namespace Go.Proofs.YtnkdgmnmmmjgjaaGreat
open Go.RowKit
open Crc

set_option maxHeartbeats 400000 in
theorem through_any (n k : Nat) (w : World) (hn : n < 4294967296) (hk : k ≤ 1000000) :
    Calls Tryz.prog 96 #[.int .u32 n, .int .i64 k] w fun e w' => e = .returned (.int .u32 (thr k n)) ∧ w = w' := by
  go_enter Tryz.func96, Tryz.ntmps96
  go_wp2_with fail
  go_loop [0, 5] (fun v i => ∃ j : Nat, j ≤ k ∧ i = .int .i64 j ∧ v = .int .u32 (thr j n)) (fun _ i => k - (intOf i).toNat)
  case atStart => exact ⟨0, Nat.zero_le _, rfl, rfl⟩
  case round =>
    obtain ⟨j, hj, rfl, rfl⟩ := hrel
    by_cases hlt : j < k
    · have hx := thr_lt j hn
      have hs := Lib.hid (thr_succ j n)
      generalize thr j n = x at *
      have h1 := and_one x hx
      have h2 := xor_poly (x / 2) (by omega)
      rw [Int.natCast_ediv, show ((2 : Nat) : Int) = 2 from rfl] at h2
      by_cases ho : x % 2 = 1
      · rw [ho] at h1
        have hv : Hid (sh x = x / 2 ^^^ poly) := by show _ = _; unfold sh; rw [if_pos ho]
        go_wp2_with fail
        exact ⟨⟨j + 1, by omega, by go_num, by rw [hs.out, hv.out]⟩, by simp [intOf]; omega⟩
      · rw [show x % 2 = 0 by omega] at h1
        have hv : Hid (sh x = x / 2) := by show _ = _; unfold sh; rw [if_neg ho]
        go_wp2_with fail
        exact ⟨⟨j + 1, by omega, by go_num, by rw [hs.out, hv.out]; rfl⟩, by simp [intOf]; omega⟩
    · obtain rfl : j = k := by omega
      go_wp2_with fail
      go_ret
      exact ⟨rfl, rfl⟩

set_option maxHeartbeats 1000000 in
set_option maxRecDepth 100000 in
theorem refMore_any (s : Nat) (v : Value) (xs : List Int) (w : World) (hs : s < 4294967296) (h : Sl w v xs) (hby : By xs) (hbig : xs.length ≤ 140737488355328) :
    Calls Tryz.prog 68 #[.int .u32 s, v] w fun e w' => e = .returned (.int .u32 (more s (nats xs))) ∧ w = w' := by
  obtain ⟨ao, c, rfl⟩ := h.slice
  have H := Lib.hid h
  have HB := Lib.hid hby
  clear h hby
  have hsg := u32_unsigned
  have hm := not_u32 s hs
  go_enter Tryz.func68, Tryz.ntmps68
  go_wp2_with fail
  clear hm
  go_loop [5, 6] (fun v i => ∃ k : Nat, k ≤ xs.length ∧ i = .int .i64 k ∧ v = .int .u32 (reg (s ^^^ ones) ((nats xs).take k))) (fun _ i => xs.length - (intOf i).toNat)
  case atStart => exact ⟨0, Nat.zero_le _, rfl, rfl⟩
  case round =>
    obtain ⟨k, hk, rfl, rfl⟩ := hrel
    have hr : reg (s ^^^ ones) ((nats xs).take k) < 4294967296 := reg_lt (Nat.xor_lt_two_pow (n := 32) hs (by decide)) (fun b hb => nats_bs HB.out b (List.mem_of_mem_take hb))
    by_cases hlt : k < xs.length
    · have L : ∃ g o, ao = some ⟨g, o, none⟩ ∧ w.cell? ⟨g, o + k, none⟩ = some (.int .u8 (xs.getD k 0)) := by
        rcases H.out with ⟨rfl, _⟩ | ⟨g, o, c', hv, hb, hc⟩
        · simp at hlt
        · obtain ⟨rfl, rfl⟩ : ao = some ⟨g, o, none⟩ ∧ c = c' := by simpa using hv
          exact ⟨g, o, rfl, hc k hlt⟩
      obtain ⟨g, o, rfl, hcell⟩ := L
      obtain ⟨y, hy, hyl, hyt⟩ := nats_get HB.out hlt
      rw [hy] at hcell
      have HS := Lib.hid (show reg (s ^^^ ones) ((nats xs).take (k + 1)) = thr 8 (reg (s ^^^ ones) ((nats xs).take k) ^^^ y) by rw [hyt, reg_snoc])
      clear hy hyt
      generalize reg (s ^^^ ones) ((nats xs).take k) = x at *
      have hx := u32_xor_nat x y hr (by omega)
      have ht := fun w => through_any (x ^^^ y) 8 w (Nat.xor_lt_two_pow (n := 32) hr (byte_lt hyl)) (by decide)
      have hk0 : (0 : Int) ≤ k := Int.natCast_nonneg _
      have hk1 : (k : Int) < xs.length := by omega
      have hy0 : (0 : Int) ≤ y := Int.natCast_nonneg _
      have hy1 : (y : Int) < 256 := by omega
      go_wp2_with fail
      refine (ht _).mono ?_
      rintro e w' ⟨rfl, rfl⟩
      go_wp2_with fail
      exact ⟨⟨k + 1, by omega, by go_num, by rw [HS.out]⟩, by simp [intOf]; omega⟩
    · obtain rfl : k = xs.length := by omega
      have hl : (nats xs).length = xs.length := by simp [nats]
      rw [← hl, List.take_length] at hr ⊢
      have HM := Lib.hid (show more s (nats xs) = reg (s ^^^ ones) (nats xs) ^^^ ones from rfl)
      generalize reg (s ^^^ ones) (nats xs) = x at *
      have hm := not_u32 x hr
      rw [hl]
      go_wp2_with fail
      go_ret
      exact ⟨by rw [HM.out]; rfl, rfl⟩

theorem refSum_any (v : Value) (xs : List Int) (w : World) (h : Sl w v xs) (hby : By xs) (hbig : xs.length ≤ 140737488355328) :
    Calls Tryz.prog 29 #[v] w fun e w' => e = .returned (.int .u32 (sum (nats xs))) ∧ w = w' := by
  have hm := refMore_any 0 v xs w (by decide) h hby hbig
  clear h hby hbig
  go_enter Tryz.func29, Tryz.ntmps29
  go_wp2_with fail
  refine hm.mono ?_
  rintro e w' ⟨rfl, rfl⟩
  go_wp2_with fail
  go_ret
  exact ⟨rfl, rfl⟩

end Go.Proofs.YtnkdgmnmmmjgjaaGreat
