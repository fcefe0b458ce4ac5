/-
  'must', where a number is put. By an AI agent.
-/
import Derived.Test.YtbinoailpceonaaRefMust
import Derived.Deep.RegionWith
namespace Go.Proofs.Ytbinoailpceonaa
open Go.RowKit

set_option maxHeartbeats 1000000 in
set_option maxRecDepth 100000 in
theorem must_one (b : Nat) (hv : Value) (s : RP) (d : OpD) (w : World) (h : Rp w b hv s) (hd : d.ok) (hk : d.k = 1) :
    Calls Try.prog 18 #[.pointer (some ⟨b, 0, none⟩), d.val] w (RpDone w b hv (s.put (leBytes 1 d.v))) := by
  obtain ⟨k, v, n, dv, bs⟩ := d
  obtain rfl : k = 1 := hk
  have hv0 : 0 ≤ v := hd.v0.1
  have hv1 : v ≤ 18446744073709551615 := hd.v0.2
  have hc : Chg [] w (w.alloc (.cells #[.int .i64 1, .int .u64 v, .int .i64 n, dv] 51)) := (Chg.refl _ _).alloc _
  have hx : Blk (w.alloc (.cells #[.int .i64 1, .int .u64 v, .int .i64 n, dv] 51)) w.heap.size 51 [.int .i64 1, .int .u64 v, .int .i64 n, dv] := Blk.made _ _ _
  have H := Lib.hid h
  have C := Lib.hid hc
  have hnum := Lib.hid (fun W (c : Chg [] w W) => refNumber_any b hv s 1 v W (h.chg c (by simp) (by simp)) (by omega) (by omega) hv0 hv1)
  have x1 := (hx.alloc (.cells #[.int .i64 1, .int .i64 2, .int .i64 4, .int .i64 8] 3)).cell (j := 0) rfl
  have x2 := (hx.alloc (.cells #[.int .i64 1, .int .i64 2, .int .i64 4, .int .i64 8] 3)).cell (j := 1) rfl
  have x3 := hx.cell (j := 0) rfl
  have x4 := hx.cell (j := 1) rfl
  clear h hd hc hx
  unfold OpD.val
  simp only
  go_enter Try.func18, Try.ntmps18
  go_wp2_with fail
  go_region_with (go_at_call 47; refine (hnum.out _ ?_).mono ?_; (first | exact ((C.out.alloc _).drew) | exact ((C.out.drew).alloc _)); rintro e w' ⟨hv2, rfl, hst⟩)
  all_goals go_wp2_with fail
  all_goals go_end0
  all_goals exact ⟨_, rfl, RpStep.after (by first | exact ((C.out.alloc _).drew) | exact ((C.out.drew).alloc _)) hst⟩

set_option maxHeartbeats 1000000 in
set_option maxRecDepth 100000 in
theorem must_two (b : Nat) (hv : Value) (s : RP) (d : OpD) (w : World) (h : Rp w b hv s) (hd : d.ok) (hk : d.k = 2) :
    Calls Try.prog 18 #[.pointer (some ⟨b, 0, none⟩), d.val] w (RpDone w b hv (s.put (leBytes 2 d.v))) := by
  obtain ⟨k, v, n, dv, bs⟩ := d
  obtain rfl : k = 2 := hk
  have hv0 : 0 ≤ v := hd.v0.1
  have hv1 : v ≤ 18446744073709551615 := hd.v0.2
  have hc : Chg [] w (w.alloc (.cells #[.int .i64 2, .int .u64 v, .int .i64 n, dv] 51)) := (Chg.refl _ _).alloc _
  have hx : Blk (w.alloc (.cells #[.int .i64 2, .int .u64 v, .int .i64 n, dv] 51)) w.heap.size 51 [.int .i64 2, .int .u64 v, .int .i64 n, dv] := Blk.made _ _ _
  have H := Lib.hid h
  have C := Lib.hid hc
  have hnum := Lib.hid (fun W (c : Chg [] w W) => refNumber_any b hv s 2 v W (h.chg c (by simp) (by simp)) (by omega) (by omega) hv0 hv1)
  have x1 := (hx.alloc (.cells #[.int .i64 1, .int .i64 2, .int .i64 4, .int .i64 8] 3)).cell (j := 0) rfl
  have x2 := (hx.alloc (.cells #[.int .i64 1, .int .i64 2, .int .i64 4, .int .i64 8] 3)).cell (j := 1) rfl
  have x3 := hx.cell (j := 0) rfl
  have x4 := hx.cell (j := 1) rfl
  clear h hd hc hx
  unfold OpD.val
  simp only
  go_enter Try.func18, Try.ntmps18
  go_wp2_with fail
  go_region_with (go_at_call 47; refine (hnum.out _ ?_).mono ?_; (first | exact ((C.out.alloc _).drew) | exact ((C.out.drew).alloc _)); rintro e w' ⟨hv2, rfl, hst⟩)
  all_goals go_wp2_with fail
  all_goals go_end0
  all_goals exact ⟨_, rfl, RpStep.after (by first | exact ((C.out.alloc _).drew) | exact ((C.out.drew).alloc _)) hst⟩

set_option maxHeartbeats 1000000 in
set_option maxRecDepth 100000 in
theorem must_four (b : Nat) (hv : Value) (s : RP) (d : OpD) (w : World) (h : Rp w b hv s) (hd : d.ok) (hk : d.k = 3) :
    Calls Try.prog 18 #[.pointer (some ⟨b, 0, none⟩), d.val] w (RpDone w b hv (s.put (leBytes 4 d.v))) := by
  obtain ⟨k, v, n, dv, bs⟩ := d
  obtain rfl : k = 3 := hk
  have hv0 : 0 ≤ v := hd.v0.1
  have hv1 : v ≤ 18446744073709551615 := hd.v0.2
  have hc : Chg [] w (w.alloc (.cells #[.int .i64 3, .int .u64 v, .int .i64 n, dv] 51)) := (Chg.refl _ _).alloc _
  have hx : Blk (w.alloc (.cells #[.int .i64 3, .int .u64 v, .int .i64 n, dv] 51)) w.heap.size 51 [.int .i64 3, .int .u64 v, .int .i64 n, dv] := Blk.made _ _ _
  have H := Lib.hid h
  have C := Lib.hid hc
  have hnum := Lib.hid (fun W (c : Chg [] w W) => refNumber_any b hv s 4 v W (h.chg c (by simp) (by simp)) (by omega) (by omega) hv0 hv1)
  have x1 := (hx.alloc (.cells #[.int .i64 1, .int .i64 2, .int .i64 4, .int .i64 8] 3)).cell (j := 0) rfl
  have x2 := (hx.alloc (.cells #[.int .i64 1, .int .i64 2, .int .i64 4, .int .i64 8] 3)).cell (j := 1) rfl
  have x3 := hx.cell (j := 0) rfl
  have x4 := hx.cell (j := 1) rfl
  clear h hd hc hx
  unfold OpD.val
  simp only
  go_enter Try.func18, Try.ntmps18
  go_wp2_with fail
  go_region_with (go_at_call 47; refine (hnum.out _ ?_).mono ?_; (first | exact ((C.out.alloc _).drew) | exact ((C.out.drew).alloc _)); rintro e w' ⟨hv2, rfl, hst⟩)
  all_goals go_wp2_with fail
  all_goals go_end0
  all_goals exact ⟨_, rfl, RpStep.after (by first | exact ((C.out.alloc _).drew) | exact ((C.out.drew).alloc _)) hst⟩

set_option maxHeartbeats 1000000 in
set_option maxRecDepth 100000 in
theorem must_eight (b : Nat) (hv : Value) (s : RP) (d : OpD) (w : World) (h : Rp w b hv s) (hd : d.ok) (hk : d.k = 4) :
    Calls Try.prog 18 #[.pointer (some ⟨b, 0, none⟩), d.val] w (RpDone w b hv (s.put (leBytes 8 d.v))) := by
  obtain ⟨k, v, n, dv, bs⟩ := d
  obtain rfl : k = 4 := hk
  have hv0 : 0 ≤ v := hd.v0.1
  have hv1 : v ≤ 18446744073709551615 := hd.v0.2
  have hc : Chg [] w (w.alloc (.cells #[.int .i64 4, .int .u64 v, .int .i64 n, dv] 51)) := (Chg.refl _ _).alloc _
  have hx : Blk (w.alloc (.cells #[.int .i64 4, .int .u64 v, .int .i64 n, dv] 51)) w.heap.size 51 [.int .i64 4, .int .u64 v, .int .i64 n, dv] := Blk.made _ _ _
  have H := Lib.hid h
  have C := Lib.hid hc
  have hnum := Lib.hid (fun W (c : Chg [] w W) => refNumber_any b hv s 8 v W (h.chg c (by simp) (by simp)) (by omega) (by omega) hv0 hv1)
  have x1 := (hx.alloc (.cells #[.int .i64 1, .int .i64 2, .int .i64 4, .int .i64 8] 3)).cell (j := 0) rfl
  have x2 := (hx.alloc (.cells #[.int .i64 1, .int .i64 2, .int .i64 4, .int .i64 8] 3)).cell (j := 1) rfl
  have x3 := hx.cell (j := 0) rfl
  have x4 := hx.cell (j := 1) rfl
  clear h hd hc hx
  unfold OpD.val
  simp only
  go_enter Try.func18, Try.ntmps18
  go_wp2_with fail
  go_region_with (go_at_call 47; refine (hnum.out _ ?_).mono ?_; (first | exact ((C.out.alloc _).drew) | exact ((C.out.drew).alloc _)); rintro e w' ⟨hv2, rfl, hst⟩)
  all_goals go_wp2_with fail
  all_goals go_end0
  all_goals exact ⟨_, rfl, RpStep.after (by first | exact ((C.out.alloc _).drew) | exact ((C.out.drew).alloc _)) hst⟩

end Go.Proofs.Ytbinoailpceonaa
