/-
  'much' of the disks' law. By an AI agent.
-/
import Derived.Test.YtjkjkennplfgaaaDkDoes4
import Derived.Test.YtjkjkennplfgaaaDkAll
namespace Go.Proofs.Ytjkjkennplfgaaa
open Go.RowKit

/-- Behind the question: where the answer is no, none of them keeps much. -/
def Much (w : World) (es : List ActD) (e : Ending) (w' : World) : Prop :=
  ∃ b, e = .returned (.bool b) ∧ (b = false → ∀ a ∈ es, a.keep.length ≤ 4000000) ∧ ∃ q, w' = w.drewN q

set_option maxHeartbeats 4000000 in
set_option maxRecDepth 100000 in
theorem much_any (n : Int) (v : Value) (es : List ActD) (w : World) (hn : 0 ≤ n ∧ n ≤ 31250) (hv : Acts w v es) :
    Calls Try.prog 14 #[.int .i64 n, v] w (Much w es) := by
  have HV := Lib.hid hv
  have hlen := hv.len
  obtain ⟨vo, vc, rfl⟩ := hv.slice
  clear hv
  go_enter Try.func14, Try.ntmps14
  go_wp2_with fail
  go_loopw [5, 6] (fun s i wr => ∃ (j m p : Nat), j ≤ es.length ∧ s = .int .i64 (m : Int) ∧ i = .int .i64 (j : Int) ∧ (m : Int) ≤ 281474990000000 ∧ Hid (m ≤ 4000000 → ∀ k a, k < j → es[k]? = some a → a.keep.length ≤ 4000000) ∧ wr = w.drewN p) (fun _ i _ => es.length - (intOf i).toNat)
  case atStart => exact ⟨0, 0, 0, Nat.zero_le _, rfl, rfl, by omega, (fun _ k a hk => absurd hk (Nat.not_lt_zero _)), rfl⟩
  case round =>
    obtain ⟨j, m, p, hj, rfl, rfl, hm, K, rfl⟩ := hrel
    have hj0 : (0 : Int) ≤ j := Int.natCast_nonneg _
    have hm0 : (0 : Int) ≤ m := Int.natCast_nonneg _
    by_cases hlt : j < es.length
    · have hj1 : (j : Int) < es.length := by omega
      by_cases hmb : m ≤ 4000000
      · have hmb1 : (m : Int) ≤ 4000000 := by omega
        obtain ⟨a, ha⟩ : ∃ a, es[j]? = some a := ⟨_, List.getElem?_eq_getElem hlt⟩
        obtain ⟨b, o1, rfl, hb, RI⟩ := HV.out.at ha
        obtain ⟨x2, y2, e2⟩ := RI.s2.slice
        obtain ⟨x3, y3, e3⟩ := RI.s3.slice
        have c0 := RI.c0
        have c2 := RI.c2
        have c3 := RI.c3
        rw [e2] at c2
        rw [e3, List.length_map] at c3
        have q2 := RI.g2
        have q3 := RI.g3
        have r0 := RI.r0
        obtain ⟨X, hX⟩ : ∃ X : Nat, X = a.data.length := ⟨_, rfl⟩
        obtain ⟨Y, hY⟩ : ∃ Y : Nat, Y = a.keep.length := ⟨_, rfl⟩
        obtain ⟨kd, hkd⟩ : ∃ k, k = a.kind := ⟨_, rfl⟩
        rw [← hX] at c2 q2
        rw [← hY] at c3 q3
        rw [← hkd] at c0 r0
        have hX0 : (0 : Int) ≤ X := Int.natCast_nonneg _
        have hY0 : (0 : Int) ≤ Y := Int.natCast_nonneg _
        have K1 : Hid (∀ m' : Nat, m + (X + Y + 1) ≤ m' → m' ≤ 4000000 → ∀ k a, k < j + 1 → es[k]? = some a → a.keep.length ≤ 4000000) := fun m' h1 h2 k a' hk hka => by
          rcases Nat.lt_or_ge k j with h | h
          · exact K.out hmb k a' h hka
          · obtain rfl : k = j := by omega
            rw [ha] at hka
            obtain rfl : a = a' := by simpa using hka
            omega
        clear RI ha e2 e3 hX hY hkd K HV
        by_cases h6 : Int.tmod kd 9 = 6
        · go_wp2_with fail
          go_region
          go_wp2_with fail
          exact ⟨⟨j + 1, m + (X + Y + 1) + n.toNat * 128, _, by omega, by go_num, by go_num, by omega, K1.out _ (by omega), rfl⟩, by simp [intOf]; omega⟩
        · have h7 : ¬ kd % 9 = 6 := by rw [← Int.tmod_eq_emod_of_nonneg r0.1]; exact h6
          have h8 : (kd % 9 == 6) = false := by simpa using h7
          go_wp2_with fail
          go_region
          go_wp2_with fail
          exact ⟨⟨j + 1, m + (X + Y + 1), _, by omega, by go_num, by go_num, by omega, K1.out _ (by omega), rfl⟩, by simp [intOf]; omega⟩
      · have hmb1 : ¬ (m : Int) ≤ 4000000 := by omega
        go_wp2_with fail
        go_ret
        exact ⟨true, rfl, (fun hf => by cases hf), p, rfl⟩
    · obtain rfl : j = es.length := by omega
      clear hlt
      go_wp2_with fail
      go_ret
      refine ⟨_, rfl, fun hf a ha => ?_, p, rfl⟩
      have hf1 : m ≤ 4000000 := by
        have h := hf
        simp at h
        omega
      obtain ⟨k, hk, rfl⟩ := List.getElem_of_mem ha
      exact K.out hf1 k _ hk (List.getElem?_eq_getElem hk)

end Go.Proofs.Ytjkjkennplfgaaa
