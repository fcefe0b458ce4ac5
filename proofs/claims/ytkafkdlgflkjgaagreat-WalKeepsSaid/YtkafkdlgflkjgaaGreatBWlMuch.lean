/-
  'much' of the journal's laws. By an AI agent.
-/
import Derived.Test.YtkafkdlgflkjgaaGreatBGInMore
import Derived.Test.YtkafkdlgflkjgaaGreatBWlSpec
import Derived.BigQuiet
namespace Go.Proofs.YtkafkdlgflkjgaaGreat
open Go.RowKit

def WOpD.weight (d : WOpD) : Nat := 1 + d.pts.length + d.keep.length
def wopW (es : List WOpD) (j : Nat) : Nat := ((es.take j).map WOpD.weight).sum

theorem wopW_succ {es : List WOpD} {j : Nat} {d : WOpD} (h : es[j]? = some d) : wopW es (j + 1) = wopW es j + d.weight := by
 unfold wopW
 rw [List.take_add_one, h]
 simp

/-- Where the answer is no, there are not many of them. -/
def WMuch (w : World) (es : List WOpD) (e : Ending) (w' : World) : Prop :=
 ∃ b, e = .returned (.bool b) ∧ (b = false → wopW es es.length ≤ 5000) ∧ ∃ q, w' = w.drewN q

set_option maxHeartbeats 4000000 in
set_option maxRecDepth 100000 in
theorem wmuch_any (v : Value) (es : List WOpD) (w : World) (hv : WOps w v es) : Calls Tryz.prog 12 #[v] w (WMuch w es) := by
 have HV := Lib.hid hv
 have hlen := hv.len
 obtain ⟨vo, vc, rfl⟩ := hv.slice
 clear hv
 obtain ⟨N, hN⟩ : ∃ N, N = es.length := ⟨_, rfl⟩
 rw [← hN] at hlen
 have HVN : Hid (WOps w (.slice vo N vc) es) := by rw [hN]; exact HV.out
 have FIN : Hid (∀ m p : Nat, wopW es N ≤ m → WMuch w es (.returned (.bool (decide ((5000 : Int) < (m : Int))))) (w.drewN p)) := fun m p h => ⟨_, rfl, fun hb => by
  have := of_decide_eq_false hb
  rw [← hN]
  omega, p, rfl⟩
 have FIN2 : Hid (∀ m p : Nat, ¬ m ≤ 5000 → WMuch w es (.returned (.bool (decide ((5000 : Int) < (m : Int))))) (w.drewN p)) := fun m p h => ⟨_, rfl, fun hb => by
  have := of_decide_eq_false hb
  omega, p, rfl⟩
 have HN := Lib.hid hN
 rw [← hN]
 clear HV hN
 have hl0 : (0 : Int) ≤ N := Int.natCast_nonneg _
 go_enter Tryz.func12, Tryz.ntmps12
 go_wp2_with fail
 go_loopw [3, 4] (fun s i wr => ∃ (j m p : Nat), j ≤ N ∧ s = .int .i64 (m : Int) ∧ i = .int .i64 (j : Int) ∧ (m : Int) ≤ 1125899906842624 ∧ Hid (wopW es j ≤ m) ∧ wr = w.drewN p) (fun _ i _ => N - (intOf i).toNat)
 case atStart => exact ⟨0, 0, 0, Nat.zero_le _, rfl, rfl, by omega, by show wopW es 0 ≤ 0; simp [wopW], rfl⟩
 case round =>
  obtain ⟨j, m, p, hj, rfl, rfl, hm, hm2, rfl⟩ := hrel
  have hj0 : (0 : Int) ≤ j := Int.natCast_nonneg _
  have hm0 : (0 : Int) ≤ m := Int.natCast_nonneg _
  by_cases hlt : j < N
  ·have hj1 : (j : Int) < N := by omega
   by_cases hmb : m ≤ 5000
   ·have hmb1 : (m : Int) ≤ 5000 := by omega
    obtain ⟨a, ha⟩ : ∃ a, es[j]? = some a := ⟨_, List.getElem?_eq_getElem (by have := HN.out; omega)⟩
    obtain ⟨b, o1, rfl, hb, RI⟩ := HVN.out.at ha
    obtain ⟨x2, y2, e2⟩ := RI.s2.slice
    obtain ⟨x3, y3, e3⟩ := RI.s3.slice
    rw [List.length_map] at e3
    have c2 := RI.c2
    have c3 := RI.c3
    have KS := RI.s2
    rw [e2] at c2 KS
    rw [e3] at c3
    have q2 := RI.s2.len
    have q3 := RI.g3
    obtain ⟨X, hX⟩ : ∃ X : Nat, X = a.pts.length := ⟨_, rfl⟩
    have KS2 : Hid (Pts w (.slice x2 X y2) a.pts) := by rw [hX]; exact KS
    rw [← hX] at c2 q2
    have hX0 : (0 : Int) ≤ X := Int.natCast_nonneg _
    obtain ⟨Y, hY⟩ : ∃ Y : Nat, Y = a.keep.length := ⟨_, rfl⟩
    rw [← hY] at c3 q3
    have hY0 : (0 : Int) ≤ Y := Int.natCast_nonneg _
    have hW : Hid (wopW es (j + 1) ≤ m + (1 + X + Y)) := by
     show wopW es (j + 1) ≤ _
     rw [wopW_succ ha]
     unfold WOpD.weight
     have := hm2.out
     omega
    have hXl := Lib.hid hX
    clear RI ha e2 e3 hX hY KS hm2
    go_wp2_with fail
    go_quiet (fail)
    go_wp2_with fail
    go_loopw [3, 5] (fun s i wr => ∃ (t m' p : Nat), t ≤ X ∧ s = .int .i64 (m' : Int) ∧ i = .int .i64 (t : Int) ∧ (m' : Int) ≤ 1125899906842624 ∧ m + (1 + X + Y) ≤ m' ∧ wr = w.drewN p) (fun _ i _ => X - (intOf i).toNat)
    case atStart => exact ⟨0, m + (1 + X + Y), p + nq, Nat.zero_le _, by go_num, rfl, by omega, Nat.le_refl _, by simp [World.drewN, Nat.add_assoc]⟩
    case round =>
     obtain ⟨t, m', p', ht, rfl, rfl, hm', hm2', rfl⟩ := hrel
     have ht0 : (0 : Int) ≤ t := Int.natCast_nonneg _
     have hm0' : (0 : Int) ≤ m' := Int.natCast_nonneg _
     have HW2 : Hid (wopW es (j + 1) ≤ m') := Nat.le_trans hW.out hm2'
     by_cases hlt2 : t < X
     ·have ht1 : (t : Int) < X := by omega
      by_cases hmb' : m' ≤ 5000
      ·have hmb2 : (m' : Int) ≤ 5000 := by omega
       obtain ⟨d, hd⟩ : ∃ d, a.pts[t]? = some d := ⟨_, List.getElem?_eq_getElem (by rw [← hXl.out]; exact hlt2)⟩
       obtain ⟨b2, o2, rfl, hb2, BI⟩ := KS2.out.at hd
       obtain ⟨x5, y5, e5⟩ := BI.sl.slice
       have c5 := BI.c2
       rw [e5] at c5
       have q5 := BI.big
       obtain ⟨L, hL⟩ : ∃ L : Nat, L = d.d.length := ⟨_, rfl⟩
       rw [← hL] at c5 q5
       have hL0 : (0 : Int) ≤ L := Int.natCast_nonneg _
       have hd2 : Int.tdiv (L : Int) 64 = ((L / 64 : Nat) : Int) := by
        rw [Int.tdiv_eq_ediv_of_nonneg hL0]
        omega
       obtain ⟨A, hA⟩ : ∃ A : Nat, A = L / 64 := ⟨_, rfl⟩
       rw [← hA] at hd2
       have hA2 : (A : Int) ≤ 140737488355328 := by omega
       have hA0 : (0 : Int) ≤ A := Int.natCast_nonneg _
       clear BI hd e5 hL hA HW2
       go_wp2_with fail
       exact ⟨⟨t + 1, m' + A, _, by omega, by go_num, by go_num, by omega, by omega, rfl⟩, by simp [intOf]; omega⟩
      ·have hmb2 : ¬ (m' : Int) ≤ 5000 := by omega
       go_wp2_with fail
       exact ⟨⟨j + 1, m', _, by omega, rfl, by go_num, by omega, HW2, rfl⟩, by simp [intOf]; omega⟩
     ·obtain rfl : t = X := by omega
      go_wp2_with fail
      exact ⟨⟨j + 1, m', _, by omega, rfl, by go_num, by omega, HW2, rfl⟩, by simp [intOf]; omega⟩
   ·have hmb1 : ¬ (m : Int) ≤ 5000 := by omega
    go_wp2_with fail
    go_ret
    exact ⟨true, rfl, (fun hf => by cases hf), p, rfl⟩
  ·have hj1 : ¬ (j : Int) < N := by omega
   have F := FIN.out m p (by have : j = N := by omega
                             rw [← this]; exact hm2.out)
   go_wp2_with fail
   go_ret
   exact F

end Go.Proofs.YtkafkdlgflkjgaaGreat
