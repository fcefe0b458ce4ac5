/-
  'must', whatever is put. By an AI agent.
-/
import Derived.Test.YtbinoailpceonaaRefMustNum
namespace Go.Proofs.Ytbinoailpceonaa
open Go.RowKit

set_option maxHeartbeats 1000000 in
set_option maxRecDepth 100000 in
theorem must_raw (b : Nat) (hv : Value) (s : RP) (d : OpD) (w : World) (h : Rp w b hv s) (hd : d.ok) (hk : d.k = 5) (hs : Sl w d.bv d.bs) :
    Calls Try.prog 18 #[.pointer (some ⟨b, 0, none⟩), d.val] w (RpDone w b hv (s.put d.bs)) := by
  obtain ⟨k, v, n, dv, bs⟩ := d
  obtain rfl : k = 5 := hk
  have hv0 : 0 ≤ v := hd.v0.1
  have hv1 : v ≤ 18446744073709551615 := hd.v0.2
  have hc : Chg [] w (w.alloc (.cells #[.int .i64 5, .int .u64 v, .int .i64 n, dv] 51)) := (Chg.refl _ _).alloc _
  have C := Lib.hid hc
  have H := Lib.hid (h.chg hc (by simp) (by simp))
  have HD := Lib.hid hd
  have SL := Lib.hid (hs.chg hc (by simp))
  clear hs
  clear h hd hc
  unfold OpD.val
  simp only
  go_enter Try.func18, Try.ntmps18
  go_wp2_with fail
  refine (refRaw_any b hv s dv bs _ H.out SL.out HD.out.big).mono ?_
  rintro e w' ⟨hv2, rfl, hst⟩
  have S := Lib.hid hst
  clear hst
  go_wp2_with fail
  go_end0
  exact ⟨_, rfl, RpStep.after C.out S.out⟩

set_option maxHeartbeats 1000000 in
set_option maxRecDepth 100000 in
theorem must_fill (b : Nat) (hv : Value) (s : RP) (d : OpD) (w : World) (h : Rp w b hv s) (hd : d.ok) (hk : d.k = 6) :
    Calls Try.prog 18 #[.pointer (some ⟨b, 0, none⟩), d.val] w (RpDone w b hv (s.put (List.replicate d.n.toNat (d.v % 256)))) := by
  obtain ⟨k, v, n, dv, bs⟩ := d
  obtain rfl : k = 6 := hk
  have hv0 : 0 ≤ v := hd.v0.1
  have hv1 : v ≤ 18446744073709551615 := hd.v0.2
  have hc : Chg [] w (w.alloc (.cells #[.int .i64 6, .int .u64 v, .int .i64 n, dv] 51)) := (Chg.refl _ _).alloc _
  have C := Lib.hid hc
  have H := Lib.hid (h.chg hc (by simp) (by simp))
  have HD := Lib.hid hd
  clear h hd hc
  unfold OpD.val
  simp only
  go_enter Try.func18, Try.ntmps18
  go_wp2_with fail
  refine (refFill_any b hv s n (v % 256) _ H.out HD.out.n0.2).mono ?_
  rintro e w' ⟨hv2, rfl, hst⟩
  have S := Lib.hid hst
  clear hst
  go_wp2_with fail
  go_end0
  exact ⟨_, rfl, RpStep.after C.out S.out⟩

set_option maxHeartbeats 1000000 in
theorem must_other (b : Nat) (hv : Value) (s : RP) (d : OpD) (w : World) (h : Rp w b hv s) (h1 : d.k ≠ 1) (h2 : d.k ≠ 2) (h3 : d.k ≠ 3) (h4 : d.k ≠ 4) (h5 : d.k ≠ 5) (h6 : d.k ≠ 6) :
    Calls Try.prog 18 #[.pointer (some ⟨b, 0, none⟩), d.val] w (RpDone w b hv (s.put [])) := by
  obtain ⟨k, v, n, dv, bs⟩ := d
  have b1 : (k == 1) = false := by simpa using h1
  have b2 : (k == 2) = false := by simpa using h2
  have b3 : (k == 3) = false := by simpa using h3
  have b4 : (k == 4) = false := by simpa using h4
  have b5 : (k == 5) = false := by simpa using h5
  have b6 : (k == 6) = false := by simpa using h6
  have hc : Chg [] w (w.alloc (.cells #[.int .i64 k, .int .u64 v, .int .i64 n, dv] 51)) := (Chg.refl _ _).alloc _
  have C := Lib.hid hc
  have H := Lib.hid (h.chg hc (by simp) (by simp))
  rw [put_nil01 h]
  clear h hc h1 h2 h3 h4 h5 h6
  unfold OpD.val
  simp only
  go_enter Try.func18, Try.ntmps18
  go_wp2_with fail
  go_end0
  exact ⟨_, rfl, RpStep.after C.out (RpStep.refl H.out)⟩

theorem must_any (b : Nat) (hv : Value) (s : RP) (d : OpD) (w : World) (h : Rp w b hv s) (hd : d.ok) (hs : Sl w d.bv d.bs) :
    Calls Try.prog 18 #[.pointer (some ⟨b, 0, none⟩), d.val] w (RpDone w b hv (s.put d.bytes)) := by
  unfold OpD.bytes
  by_cases h1 : d.k = 1
  · rw [if_pos h1]; exact must_one b hv s d w h hd h1
  rw [if_neg h1]
  by_cases h2 : d.k = 2
  · rw [if_pos h2]; exact must_two b hv s d w h hd h2
  rw [if_neg h2]
  by_cases h3 : d.k = 3
  · rw [if_pos h3]; exact must_four b hv s d w h hd h3
  rw [if_neg h3]
  by_cases h4 : d.k = 4
  · rw [if_pos h4]; exact must_eight b hv s d w h hd h4
  rw [if_neg h4]
  by_cases h5 : d.k = 5
  · rw [if_pos h5]; exact must_raw b hv s d w h hd h5 hs
  rw [if_neg h5]
  by_cases h6 : d.k = 6
  · rw [if_pos h6]; exact must_fill b hv s d w h hd h6
  rw [if_neg h6]
  exact must_other b hv s d w h h1 h2 h3 h4 h5 h6

end Go.Proofs.Ytbinoailpceonaa
