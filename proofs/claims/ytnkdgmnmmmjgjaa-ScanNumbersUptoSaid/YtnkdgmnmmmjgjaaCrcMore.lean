/-
  The program's More and Sum. By an AI agent.
-/
import Derived.Test.YtnkdgmnmmmjgjaaCrcFns
namespace Go.Proofs.Ytnkdgmnmmmjgjaa
open Go.RowKit
open Crc

set_option maxHeartbeats 1000000 in
set_option maxRecDepth 100000 in
theorem more_any (s : Nat) (v : Value) (xs : List Int) (w : World) (hs : s < 4294967296) (h : Sl w v xs) (hby : By xs) (hbig : xs.length ≤ 140737488355328) :
    Calls Try.prog 21 #[.int .u32 s, v] w fun e w' => e = .returned (.int .u32 (more s (nats xs))) ∧ Hid (Chg [] w w') := by
  have H0 := Lib.hid h
  have HB := Lib.hid hby
  clear h hby
  have hsg := u32_unsigned
  have hm := not_u32 s hs
  go_enter Try.func21, Try.ntmps21
  go_wp2_with fail
  refine (table_any w).mono ?_
  rintro e w1 ⟨t, rfl, T, D, -⟩
  have H : Hid (Sl w1 v xs) := H0.out.chg D.out (fun b _ => by simp)
  obtain ⟨ao, c, rfl⟩ := H.out.slice
  clear H0
  go_wp2_with fail
  clear hm
  go_loop [6, 14] (fun v i => ∃ k : Nat, k ≤ xs.length ∧ i = .int .i64 k ∧ v = .int .u32 (reg (s ^^^ ones) ((nats xs).take k))) (fun _ i => xs.length - (intOf i).toNat)
  case atStart => exact ⟨0, Nat.zero_le _, rfl, rfl⟩
  case round =>
    obtain ⟨k, hk, rfl, rfl⟩ := hrel
    have hr : reg (s ^^^ ones) ((nats xs).take k) < 4294967296 := reg_lt (Nat.xor_lt_two_pow (n := 32) hs (by decide)) (fun b hb => nats_bs HB.out b (List.mem_of_mem_take hb))
    by_cases hlt : k < xs.length
    · have L : ∃ g o, ao = some ⟨g, o, none⟩ ∧ w1.cell? ⟨g, o + k, none⟩ = some (.int .u8 (xs.getD k 0)) := by
        rcases H.out with ⟨rfl, _⟩ | ⟨g, o, c', hv, hb, hc⟩
        · simp at hlt
        · obtain ⟨rfl, rfl⟩ : ao = some ⟨g, o, none⟩ ∧ c = c' := by simpa using hv
          exact ⟨g, o, rfl, hc k hlt⟩
      obtain ⟨g, o, rfl, hcell⟩ := L
      obtain ⟨y, hy, hyl, hyt⟩ := nats_get HB.out hlt
      rw [hy] at hcell
      have HS := Lib.hid (show reg (s ^^^ ones) ((nats xs).take (k + 1)) = thr 8 (reg (s ^^^ ones) ((nats xs).take k) ^^^ y) by rw [hyt, reg_snoc])
      clear hy hyt
      generalize reg (s ^^^ ones) ((nats xs).take k) = x at *
      have ht := take_any t x y w1 T.out hr hyl
      have hk0 : (0 : Int) ≤ k := Int.natCast_nonneg _
      have hk1 : (k : Int) < xs.length := by omega
      go_wp2_with fail
      refine ht.mono ?_
      rintro e w' ⟨rfl, rfl⟩
      go_wp2_with fail
      exact ⟨⟨k + 1, by omega, by go_num, by rw [HS.out]⟩, by simp [intOf]; omega⟩
    · obtain rfl : k = xs.length := by omega
      have hl : (nats xs).length = xs.length := by simp [nats]
      rw [← hl, List.take_length] at hr ⊢
      have HM := Lib.hid (show more s (nats xs) = reg (s ^^^ ones) (nats xs) ^^^ ones from rfl)
      generalize reg (s ^^^ ones) (nats xs) = x at *
      have hm := not_u32 x hr
      rw [hl]
      go_wp2_with fail
      go_ret
      exact ⟨by rw [HM.out]; rfl, D⟩

theorem sum_any (v : Value) (xs : List Int) (w : World) (h : Sl w v xs) (hby : By xs) (hbig : xs.length ≤ 140737488355328) :
    Calls Try.prog 20 #[v] w fun e w' => e = .returned (.int .u32 (sum (nats xs))) ∧ Hid (Chg [] w w') := by
  have hm := more_any 0 v xs w (by decide) h hby hbig
  clear h hby hbig
  go_enter Try.func20, Try.ntmps20
  go_wp2_with fail
  refine hm.mono ?_
  rintro e w' ⟨rfl, C⟩
  go_wp2_with fail
  go_ret
  exact ⟨rfl, C⟩

end Go.Proofs.Ytnkdgmnmmmjgjaa
