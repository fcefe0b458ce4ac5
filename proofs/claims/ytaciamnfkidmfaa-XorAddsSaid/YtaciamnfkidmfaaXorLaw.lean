/-
  The statements' own small functions. By an AI agent.
-/
import Derived.Test.YtaciamnfkidmfaaXorKnown
import Derived.Test.YtaciamnfkidmfaaGFlat
namespace Go.Proofs.Ytaciamnfkidmfaa
open Go.RowKit

def muchB (ds : List RowD) : Bool := decide (100000 < ds.length + (flat ds).length)

theorem not_much {ds : List RowD} (h : muchB ds = false) : ds.length ≤ 100000 ∧ ∀ d ∈ ds, d.bs.length ≤ 100000 := by
  unfold muchB at h
  have h2 : ¬ 100000 < ds.length + (flat ds).length := of_decide_eq_false h
  refine ⟨by omega, fun d hd => ?_⟩
  have := flat_small hd
  omega

set_option maxRecDepth 100000 in
theorem much_any (v : Value) (ds : List RowD) (w : World) (h : Rws w v ds) :
    Calls Try.prog 12 #[v] w fun e w' => e = .returned (.bool (muchB ds)) ∧ w = w' := by
  obtain ⟨ao, c, rfl⟩ := h.slice
  have hlen := h.len
  have HR := Lib.hid h
  clear h
  go_enter Try.func12, Try.ntmps12
  go_wp2_with fail
  go_loop [3, 4] (fun n i => ∃ k : Nat, k ≤ ds.length ∧ i = .int .i64 k ∧ n = .int .i64 ((ds.length + (flat (ds.take k)).length : Nat) : Int)) (fun _ i => ds.length - (intOf i).toNat)
  case atStart => exact ⟨0, Nat.zero_le _, rfl, by simp [flat]⟩
  case round =>
    obtain ⟨k, hk, rfl, rfl⟩ := hrel
    by_cases hgo : k < ds.length ∧ ds.length + (flat (ds.take k)).length ≤ 100000
    · obtain ⟨hlt, hle⟩ := hgo
      obtain ⟨d, hd⟩ : ∃ d, ds[k]? = some d := ⟨_, List.getElem?_eq_getElem hlt⟩
      obtain ⟨b, o, rfl, hb, R⟩ := HR.out.at hd
      have c0 := R.c0
      have hbig := R.big
      obtain ⟨eo, ec, hv⟩ := R.sl.slice
      rw [hv] at c0
      have HF := Lib.hid (flat_next hd)
      have hk0 : (0 : Int) ≤ k := Int.natCast_nonneg _
      have hk1 : (k : Int) < ds.length := by omega
      have e1 : ((ds.length + (flat (ds.take k)).length : Nat) : Int) ≤ 100000 := by omega
      have HE : Hid (((ds.length + (flat (ds.take (k + 1))).length : Nat) : Int) = ((ds.length + (flat (ds.take k)).length : Nat) : Int) + (d.bs.length : Int)) := by
        show _ = _
        rw [HF.out, List.length_append]
        omega
      have e0 : (0 : Int) ≤ ((ds.length + (flat (ds.take k)).length : Nat) : Int) := Int.natCast_nonneg _
      generalize ((ds.length + (flat (ds.take k)).length : Nat) : Int) = N at *
      clear R hd hv
      go_wp2_with fail
      exact ⟨⟨k + 1, by omega, by go_num, by rw [HE.out]⟩, by simp [intOf]; omega⟩
    · have hfl := flat_len_le ds k
      by_cases hle : ds.length + (flat (ds.take k)).length ≤ 100000
      · have hke : k = ds.length := by omega
        subst hke
        rw [List.take_length] at *
        have F : Hid (muchB ds = false) := by show _ = _; unfold muchB; exact decide_eq_false (by omega)
        have e1 : ((ds.length + (flat ds).length : Nat) : Int) ≤ 100000 := by omega
        generalize ((ds.length + (flat ds).length : Nat) : Int) = N at *
        have e2 : decide ((100000 : Int) < N) = false := decide_eq_false (by omega)
        go_wp2_with fail
        go_ret
        exact ⟨by rw [F.out, ← e2]; rfl, rfl⟩
      · have F : Hid (muchB ds = true) := by show _ = _; unfold muchB; exact decide_eq_true (by omega)
        have e1 : ¬ ((ds.length + (flat (ds.take k)).length : Nat) : Int) ≤ 100000 := by omega
        generalize ((ds.length + (flat (ds.take k)).length : Nat) : Int) = N at *
        have e2 : decide ((100000 : Int) < N) = true := decide_eq_true (by omega)
        by_cases hlt : k < ds.length
        · have hk1 : (k : Int) < ds.length := by omega
          go_wp2_with fail
          go_ret
          exact ⟨by rw [F.out, ← e2]; rfl, rfl⟩
        · obtain rfl : k = ds.length := by omega
          go_wp2_with fail
          go_ret
          exact ⟨by rw [F.out, ← e2]; rfl, rfl⟩

set_option maxRecDepth 100000 in
theorem cut_any (ao bo co : Option Addr) (n na nb nc ca cb cc : Nat) (w : World) (hm : min (na : Int) (min (nb : Int) (nc : Int)) = (n : Int)) (h1 : na ≤ ca) (h2 : nb ≤ cb) (h3 : nc ≤ cc) (hb : n ≤ 140737488355328) :
    Calls Try.prog 40 #[.slice ao na ca, .slice bo nb cb, .slice co nc cc] w fun e w' => e = .returned (.tuple #[.slice ao n ca, .slice bo n cb, .slice co n cc]) ∧ ∃ q, w' = w.drewN q := by
  have hn0 : (0 : Int) ≤ n := Int.natCast_nonneg _
  by_cases c1 : nb < na
  · by_cases c2 : nb ≤ nc
    · obtain rfl : n = nb := by omega
      have a1 : (n : Int) ≤ ca := by omega
      have a2 : (n : Int) ≤ cb := by omega
      have a3 : (n : Int) ≤ cc := by omega
      clear hm
      go_enter Try.func40, Try.ntmps40
      go_wp2_with fail
      go_quiet (fail)
      go_wp2_with fail
      go_ret3
      exact ⟨rfl, _, rfl⟩
    · obtain rfl : n = nc := by omega
      have a1 : (n : Int) ≤ ca := by omega
      have a2 : (n : Int) ≤ cb := by omega
      have a3 : (n : Int) ≤ cc := by omega
      clear hm
      go_enter Try.func40, Try.ntmps40
      go_wp2_with fail
      go_quiet (fail)
      go_wp2_with fail
      go_ret3
      exact ⟨rfl, _, rfl⟩
  · by_cases c2 : na ≤ nc
    · obtain rfl : n = na := by omega
      have a1 : (n : Int) ≤ ca := by omega
      have a2 : (n : Int) ≤ cb := by omega
      have a3 : (n : Int) ≤ cc := by omega
      clear hm
      go_enter Try.func40, Try.ntmps40
      go_wp2_with fail
      go_quiet (fail)
      go_wp2_with fail
      go_ret3
      exact ⟨rfl, _, rfl⟩
    · obtain rfl : n = nc := by omega
      have a1 : (n : Int) ≤ ca := by omega
      have a2 : (n : Int) ≤ cb := by omega
      have a3 : (n : Int) ≤ cc := by omega
      clear hm
      go_enter Try.func40, Try.ntmps40
      go_wp2_with fail
      go_quiet (fail)
      go_wp2_with fail
      go_ret3
      exact ⟨rfl, _, rfl⟩

end Go.Proofs.Ytaciamnfkidmfaa
