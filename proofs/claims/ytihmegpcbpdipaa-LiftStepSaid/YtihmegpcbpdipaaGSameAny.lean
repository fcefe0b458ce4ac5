/-
  Two lists of bytes, whatever they have: what SameBytes says. By an AI agent.
-/
import Derived.Test.YtihmegpcbpdipaaG
namespace Go.Proofs.Ytihmegpcbpdipaa
open Go.RowKit

theorem Sl.at {w : World} {ao : Option Addr} {n c : Nat} {xs : List Int} (h : Sl w (.slice ao n c) xs) {k : Nat} (hk : k < xs.length) : ∃ g o, ao = some ⟨g, o, none⟩ ∧ w.cell? ⟨g, o + k, none⟩ = some (.int .u8 (xs.getD k 0)) := by
  rcases h with ⟨rfl, _⟩ | ⟨g, o, c', hv, hb, hc⟩
  · simp at hk
  · obtain ⟨rfl, _⟩ : ao = some ⟨g, o, none⟩ ∧ n = xs.length ∧ c = c' := by simpa using hv
    exact ⟨g, o, rfl, hc k hk⟩

theorem take_succ_eq {xs ys : List Int} {k : Nat} (h : xs.take k = ys.take k) (hx : k < xs.length) (hy : k < ys.length) (he : xs.getD k 0 = ys.getD k 0) : xs.take (k + 1) = ys.take (k + 1) := by
  rw [List.take_succ_eq_append_getElem hx, List.take_succ_eq_append_getElem hy, h]
  congr 2
  simpa [List.getD, List.getElem?_eq_getElem hx, List.getElem?_eq_getElem hy] using he

set_option maxHeartbeats 1000000 in
theorem same_any (va vb : Value) (xs ys : List Int) (w : World) (ha : Sl w va xs) (hb : Sl w vb ys) (hbig : xs.length ≤ 140737488355328) (_hbig2 : ys.length ≤ 140737488355328) :
    Calls Try.prog 26 #[va, vb] w fun e w' => e = .returned (.bool (decide (xs = ys))) ∧ ∃ q, w' = w.drewN q := by
  obtain ⟨ao, ac, rfl⟩ := ha.slice
  obtain ⟨bo, bc, rfl⟩ := hb.slice
  have HA := Lib.hid ha
  have HB := Lib.hid hb
  clear ha hb
  by_cases hl : xs.length = ys.length
  case neg =>
    have h1 : ¬ (xs.length : Int) = ys.length := by omega
    have h2 : decide (xs = ys) = false := decide_eq_false (fun e => hl (by rw [e]))
    rw [h2]
    clear HA HB h2
    go_enter Try.func26, Try.ntmps26
    go_wp2
    go_ret
    exact ⟨rfl, 0, rfl⟩
  obtain ⟨n, hn⟩ : ∃ n, n = xs.length := ⟨_, rfl⟩
  have hm : n = ys.length := by omega
  obtain ⟨r, hr⟩ : ∃ r, r = decide (xs = ys) := ⟨_, rfl⟩
  rw [← hr, ← hn, ← hm]
  rw [← hn] at hbig
  replace hn := Lib.hid hn
  replace hm := Lib.hid hm
  replace hr := Lib.hid hr
  clear hl _hbig2
  go_enter Try.func26, Try.ntmps26
  go_wp2
  go_loopw [5] (fun i wr => ∃ k : Nat, k ≤ n ∧ i = .int .i64 k ∧ Hid (xs.take k = ys.take k) ∧ ∃ q, wr = w.drewN q) (fun i _ => n - (intOf i).toNat)
  case atStart => exact ⟨0, Nat.zero_le _, rfl, (by simp : xs.take 0 = ys.take 0), 0, rfl⟩
  case round =>
    obtain ⟨k, hk, rfl, TK, q, rfl⟩ := hrel
    by_cases hlt : k < n
    · have hkx : k < xs.length := by have := hn.out; omega
      have hky : k < ys.length := by have := hm.out; omega
      obtain ⟨g, o, rfl, c1⟩ := HA.out.at hkx
      obtain ⟨g2, o2, rfl, c2⟩ := HB.out.at hky
      have NX : Hid (xs.getD k 0 = ys.getD k 0 → xs.take (k + 1) = ys.take (k + 1)) := fun he => take_succ_eq TK.out hkx hky he
      have NE : Hid (¬ xs.getD k 0 = ys.getD k 0 → r = false) := fun he => by
        rw [hr.out]
        exact decide_eq_false (fun e => he (by rw [e]))
      generalize xs.getD k 0 = x at *
      generalize ys.getD k 0 = y at *
      clear TK hkx hky
      have hi0 : (0 : Int) ≤ k := Int.natCast_nonneg _
      have hi1 : (k : Int) < n := by omega
      by_cases hxy : x = y
      · have T1 := Lib.hid (NX.out hxy)
        clear NX NE
        subst hxy
        go_wp2_with fail
        go_quiet (fail)
        go_wp2
        exact ⟨⟨k + 1, by omega, by go_num, T1, _, rfl⟩, by simp [intOf]; omega⟩
      · obtain rfl := NE.out hxy
        clear NX NE
        go_wp2_with fail
        go_quiet (fail)
        go_wp2
        go_ret
        exact ⟨rfl, q + nq, by simp only [World.drewN, Nat.add_assoc]⟩
    · have hT : r = true := by
        rw [hr.out]
        refine decide_eq_true ?_
        have h1 := TK.out
        rw [List.take_of_length_le (by have := hn.out; omega), List.take_of_length_le (by have := hm.out; omega)] at h1
        exact h1
      subst hT
      go_wp2
      go_ret
      exact ⟨rfl, _, rfl⟩

end Go.Proofs.Ytihmegpcbpdipaa
