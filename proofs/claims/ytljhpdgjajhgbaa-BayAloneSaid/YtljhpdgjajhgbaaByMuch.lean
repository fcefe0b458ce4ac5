/-
  'much' and 'plain' of the bays' laws. By an AI agent.
-/
import Derived.Test.YtljhpdgjajhgbaaByCons
import Derived.Test.YtljhpdgjajhgbaaByMath
import Derived.Test.YtljhpdgjajhgbaaByOps
import Derived.Test.YtljhpdgjajhgbaaDkCons
namespace Go.Proofs.Ytljhpdgjajhgbaa
open Go.RowKit

/-- Where the answer is no, there are not many of them. -/
def BMuch (w : World) (n : Nat) (e : Ending) (w' : World) : Prop :=
  ∃ b, e = .returned (.bool b) ∧ (b = false → n ≤ 100000) ∧ ∃ q, w' = w.drewN q

set_option maxHeartbeats 4000000 in
set_option maxRecDepth 100000 in
theorem bmuch_any (so : Option Addr) (ns sc : Nat) (v : Value) (es : List BOpD) (w : World) (hns : ns ≤ 140737488355328) (hv : BOps w v es) :
    Calls Try.prog 10 #[.slice so ns sc, v] w (BMuch w (es.length + ns)) := by
  have HV := Lib.hid hv
  have hlen := hv.len
  obtain ⟨vo, vc, rfl⟩ := hv.slice
  clear hv
  have hl0 : (0 : Int) ≤ es.length := Int.natCast_nonneg _
  have hn0 : (0 : Int) ≤ ns := Int.natCast_nonneg _
  go_enter Try.func10, Try.ntmps10
  go_wp2_with fail
  go_loopw [5, 6] (fun s i wr => ∃ (j m p : Nat), j ≤ es.length ∧ s = .int .i64 (m : Int) ∧ i = .int .i64 (j : Int) ∧ (m : Int) ≤ 1125899906842624 ∧ es.length + ns ≤ m ∧ wr = w.drewN p) (fun _ i _ => es.length - (intOf i).toNat)
  case atStart => exact ⟨0, es.length + ns, 0, Nat.zero_le _, by go_num, rfl, by omega, Nat.le_refl _, rfl⟩
  case round =>
    obtain ⟨j, m, p, hj, rfl, rfl, hm, hm2, rfl⟩ := hrel
    have hj0 : (0 : Int) ≤ j := Int.natCast_nonneg _
    have hm0 : (0 : Int) ≤ m := Int.natCast_nonneg _
    by_cases hlt : j < es.length
    · have hj1 : (j : Int) < es.length := by omega
      by_cases hmb : m ≤ 100000
      · have hmb1 : (m : Int) ≤ 100000 := by omega
        obtain ⟨a, ha⟩ : ∃ a, es[j]? = some a := ⟨_, List.getElem?_eq_getElem hlt⟩
        obtain ⟨b, o1, rfl, hb, RI⟩ := HV.out.at ha
        obtain ⟨x3, y3, e3⟩ := RI.s3.slice
        obtain ⟨x4, y4, e4⟩ := RI.s4.slice
        have c3 := RI.c3
        have c4 := RI.c4
        have KS := RI.s4
        rw [e3] at c3
        rw [e4] at c4 KS
        have q3 := RI.g3
        have q4 := RI.s4.len
        obtain ⟨X, hX⟩ : ∃ X : Nat, X = a.data.length := ⟨_, rfl⟩
        rw [← hX] at c3 q3
        have hX0 : (0 : Int) ≤ X := Int.natCast_nonneg _
        have hd : Int.tdiv (X : Int) 64 = ((X / 64 : Nat) : Int) := by
          rw [Int.tdiv_eq_ediv_of_nonneg hX0]
          omega
        obtain ⟨A, hA⟩ : ∃ A : Nat, A = X / 64 := ⟨_, rfl⟩
        rw [← hA] at hd
        have hA2 : (A : Int) ≤ 140737488355328 := by omega
        have hA0 : (0 : Int) ≤ A := Int.natCast_nonneg _
        obtain ⟨Y, hY⟩ : ∃ Y : Nat, Y = a.keeps.length := ⟨_, rfl⟩
        have KS2 : Hid (BRs w (.slice x4 Y y4) a.keeps) := by rw [hY]; exact KS
        rw [← hY] at c4 q4
        have hY0 : (0 : Int) ≤ Y := Int.natCast_nonneg _
        have hYl := Lib.hid hY
        clear RI ha e3 e4 hX hY hA KS
        go_wp2_with fail
        go_quiet (fail)
        go_wp2_with fail
        go_loopw [5, 7] (fun s i wr => ∃ (t m p : Nat), t ≤ Y ∧ s = .int .i64 (m : Int) ∧ i = .int .i64 (t : Int) ∧ (m : Int) ≤ 1125899906842624 ∧ es.length + ns ≤ m ∧ wr = w.drewN p) (fun _ i _ => Y - (intOf i).toNat)
        case atStart => exact ⟨0, m + (A + Y), p + nq, Nat.zero_le _, by go_num, rfl, by omega, by omega, by simp [World.drewN, Nat.add_assoc]⟩
        case round =>
          obtain ⟨t, m, p, ht, rfl, rfl, hm, hm2, rfl⟩ := hrel
          have ht0 : (0 : Int) ≤ t := Int.natCast_nonneg _
          have hm0 : (0 : Int) ≤ m := Int.natCast_nonneg _
          by_cases hlt2 : t < Y
          · have ht1 : (t : Int) < Y := by omega
            by_cases hmb : m ≤ 100000
            · have hmb2 : (m : Int) ≤ 100000 := by omega
              obtain ⟨d, hd⟩ : ∃ d, a.keeps[t]? = some d := ⟨_, List.getElem?_eq_getElem (by rw [← hYl.out]; exact hlt2)⟩
              obtain ⟨b2, o2, rfl, hb2, BI⟩ := KS2.out.at hd
              obtain ⟨x5, y5, e5⟩ := BI.rd.slice
              have c5 := BI.c0
              rw [e5, List.length_map] at c5
              have q5 := BI.big
              obtain ⟨L, hL⟩ : ∃ L : Nat, L = d.bs.length := ⟨_, rfl⟩
              rw [← hL] at c5 q5
              have hL0 : (0 : Int) ≤ L := Int.natCast_nonneg _
              clear BI hd e5 hL
              go_wp2_with fail
              exact ⟨⟨t + 1, m + L, _, by omega, by go_num, by go_num, by omega, by omega, rfl⟩, by simp [intOf]; omega⟩
            · have hmb2 : ¬ (m : Int) ≤ 100000 := by omega
              go_wp2_with fail
              exact ⟨⟨j + 1, m, _, by omega, rfl, by go_num, by omega, by omega, rfl⟩, by simp [intOf]; omega⟩
          · obtain rfl : t = Y := by omega
            go_wp2_with fail
            exact ⟨⟨j + 1, m, _, by omega, rfl, by go_num, by omega, by omega, rfl⟩, by simp [intOf]; omega⟩
      · have hmb1 : ¬ (m : Int) ≤ 100000 := by omega
        go_wp2_with fail
        go_ret
        exact ⟨true, rfl, (fun hf => by cases hf), p, rfl⟩
    · obtain rfl : j = es.length := by omega
      clear hlt
      go_wp2_with fail
      go_ret
      refine ⟨_, rfl, fun hf => ?_, p, rfl⟩
      have h := hf
      simp at h
      omega

end Go.Proofs.Ytljhpdgjajhgbaa
