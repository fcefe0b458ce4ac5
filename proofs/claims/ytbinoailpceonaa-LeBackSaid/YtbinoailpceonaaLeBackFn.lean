/-
  'back': what was put is read again. By an AI agent.
-/
import Derived.Test.YtbinoailpceonaaRun
import Derived.Test.YtbinoailpceonaaSame
import Derived.RegionTactic
import Derived.ChangeAlike
import Derived.BigRegion
namespace Go.Proofs.Ytbinoailpceonaa
open Go.RowKit

/-- The reader stands before these bytes. -/
structure RS.has (s : RS) (xs : List Int) : Prop where
  bad : s.bad = 0
  fit : s.pos + xs.length ≤ s.xs.length
  eq : (s.xs.drop s.pos).take xs.length = xs

theorem RS.has.got {s : RS} {xs : List Int} (h : s.has xs) : s.got xs.length = xs := by
  unfold RS.got
  rw [if_pos h.bad, if_pos h.fit, h.eq]

/-- 'back' says yes. -/
def Back (w : World) (b : Nat) (v : Value) (s' : RS) (e : Ending) (w' : World) : Prop := e = .returned (.bool true) ∧ Rd w' b v s' ∧ Chg [b] w w'

set_option maxHeartbeats 1000000 in
set_option maxRecDepth 100000 in
theorem back_one (b : Nat) (rv : Value) (s : RS) (d : OpD) (w : World) (h : Rd w b rv s) (hd : d.ok) (hk : d.k = 1) (hs : s.has d.bytes) :
    Calls Try.prog 31 #[.pointer (some ⟨b, 0, none⟩), d.val] w (Back w b rv (s.next d.bytes.length)) := by
  obtain ⟨k, v, n, dv, bs⟩ := d
  obtain rfl : k = 1 := hk
  have hby : (OpD.mk 1 v n dv bs).bytes = leBytes 1 v := rfl
  rw [hby] at hs ⊢
  have hg := hs.got
  rw [leBytes_length] at hg ⊢
  have hv0 : 0 ≤ v := hd.v0.1
  have hv1 : v ≤ 18446744073709551615 := hd.v0.2
  have hc : Chg [] w (w.alloc (.cells #[.int .i64 1, .int .u64 v, .int .i64 n, dv] 51)) := (Chg.refl _ _).alloc _
  have hre := reads_any b rv s ⟨1, v, n, dv, bs⟩ _ (h.chg hc (by simp) (by simp)) hd
  have e1 : (OpD.mk 1 v n dv bs).num s = v % 256 := by
    show leNum (s.got 1) = _
    rw [hg, leNum_leBytes]
    rfl
  have e2 : (OpD.mk 1 v n dv bs).step s = s.next 1 := rfl
  rw [e1, e2] at hre
  have hx : Blk (w.alloc (.cells #[.int .i64 1, .int .u64 v, .int .i64 n, dv] 51)) w.heap.size 51 [.int .i64 1, .int .u64 v, .int .i64 n, dv] := Blk.made _ _ _
  have hlt := h.pb.lt
  have HX := Lib.hid hx
  have C := Lib.hid hc
  have hand := and_low v 8 255 (by omega) rfl hv0 hv1
  clear h hd hs hg e1 e2 hc hx hby
  unfold OpD.val
  simp only
  go_enter Try.func31, Try.ntmps31
  go_wp2_with fail
  refine hre.mono ?_
  clear hre
  rintro e w1 ⟨lv, rfl, -, hr, hc⟩
  have HB := Lib.hid (HX.out.chg hc (by simp; omega))
  have R := Lib.hid hr
  have D := Lib.hid hc
  clear hr hc HX
  have c0 := HB.out.cell (j := 0) rfl
  have c1 := HB.out.cell (j := 1) rfl
  go_wp2_with fail
  have HM := HB.out.alloc (.cells #[.int .u64 255, .int .u64 65535, .int .u64 4294967295, .int .u64 18446744073709551615] 49)
  have c2 := HM.cell (j := 0) rfl
  have c3 := HM.cell (j := 1) rfl
  clear HM
  go_region
  go_wp2_with fail
  go_ret
  have hc : Chg [b] w1 ((w1.alloc (.cells #[.int .u64 255, .int .u64 65535, .int .u64 4294967295, .int .u64 18446744073709551615] 49)).drew) := ((Chg.refl _ _).alloc _).drew
  exact ⟨rfl, R.out.chg (t := []) (((Chg.refl _ _).alloc _).drew) (by simp) (by simp), ((C.out.mono (by simp)).trans D.out).trans hc⟩

set_option maxHeartbeats 1000000 in
set_option maxRecDepth 100000 in
theorem back_two (b : Nat) (rv : Value) (s : RS) (d : OpD) (w : World) (h : Rd w b rv s) (hd : d.ok) (hk : d.k = 2) (hs : s.has d.bytes) :
    Calls Try.prog 31 #[.pointer (some ⟨b, 0, none⟩), d.val] w (Back w b rv (s.next d.bytes.length)) := by
  obtain ⟨k, v, n, dv, bs⟩ := d
  obtain rfl : k = 2 := hk
  have hby : (OpD.mk 2 v n dv bs).bytes = leBytes 2 v := rfl
  rw [hby] at hs ⊢
  have hg := hs.got
  rw [leBytes_length] at hg ⊢
  have hv0 : 0 ≤ v := hd.v0.1
  have hv1 : v ≤ 18446744073709551615 := hd.v0.2
  have hc : Chg [] w (w.alloc (.cells #[.int .i64 2, .int .u64 v, .int .i64 n, dv] 51)) := (Chg.refl _ _).alloc _
  have hre := reads_any b rv s ⟨2, v, n, dv, bs⟩ _ (h.chg hc (by simp) (by simp)) hd
  have e1 : (OpD.mk 2 v n dv bs).num s = v % 65536 := by
    show leNum (s.got 2) = _
    rw [hg, leNum_leBytes]
    rfl
  have e2 : (OpD.mk 2 v n dv bs).step s = s.next 2 := rfl
  rw [e1, e2] at hre
  have hx : Blk (w.alloc (.cells #[.int .i64 2, .int .u64 v, .int .i64 n, dv] 51)) w.heap.size 51 [.int .i64 2, .int .u64 v, .int .i64 n, dv] := Blk.made _ _ _
  have hlt := h.pb.lt
  have HX := Lib.hid hx
  have C := Lib.hid hc
  have hand := and_low v 16 65535 (by omega) rfl hv0 hv1
  clear h hd hs hg e1 e2 hc hx hby
  unfold OpD.val
  simp only
  go_enter Try.func31, Try.ntmps31
  go_wp2_with fail
  refine hre.mono ?_
  clear hre
  rintro e w1 ⟨lv, rfl, -, hr, hc⟩
  have HB := Lib.hid (HX.out.chg hc (by simp; omega))
  have R := Lib.hid hr
  have D := Lib.hid hc
  clear hr hc HX
  have c0 := HB.out.cell (j := 0) rfl
  have c1 := HB.out.cell (j := 1) rfl
  go_wp2_with fail
  have HM := HB.out.alloc (.cells #[.int .u64 255, .int .u64 65535, .int .u64 4294967295, .int .u64 18446744073709551615] 49)
  have c2 := HM.cell (j := 0) rfl
  have c3 := HM.cell (j := 1) rfl
  clear HM
  go_region
  go_wp2_with fail
  go_ret
  have hc : Chg [b] w1 ((w1.alloc (.cells #[.int .u64 255, .int .u64 65535, .int .u64 4294967295, .int .u64 18446744073709551615] 49)).drew) := ((Chg.refl _ _).alloc _).drew
  exact ⟨rfl, R.out.chg (t := []) (((Chg.refl _ _).alloc _).drew) (by simp) (by simp), ((C.out.mono (by simp)).trans D.out).trans hc⟩

set_option maxHeartbeats 1000000 in
set_option maxRecDepth 100000 in
theorem back_four (b : Nat) (rv : Value) (s : RS) (d : OpD) (w : World) (h : Rd w b rv s) (hd : d.ok) (hk : d.k = 3) (hs : s.has d.bytes) :
    Calls Try.prog 31 #[.pointer (some ⟨b, 0, none⟩), d.val] w (Back w b rv (s.next d.bytes.length)) := by
  obtain ⟨k, v, n, dv, bs⟩ := d
  obtain rfl : k = 3 := hk
  have hby : (OpD.mk 3 v n dv bs).bytes = leBytes 4 v := rfl
  rw [hby] at hs ⊢
  have hg := hs.got
  rw [leBytes_length] at hg ⊢
  have hv0 : 0 ≤ v := hd.v0.1
  have hv1 : v ≤ 18446744073709551615 := hd.v0.2
  have hc : Chg [] w (w.alloc (.cells #[.int .i64 3, .int .u64 v, .int .i64 n, dv] 51)) := (Chg.refl _ _).alloc _
  have hre := reads_any b rv s ⟨3, v, n, dv, bs⟩ _ (h.chg hc (by simp) (by simp)) hd
  have e1 : (OpD.mk 3 v n dv bs).num s = v % 4294967296 := by
    show leNum (s.got 4) = _
    rw [hg, leNum_leBytes]
    rfl
  have e2 : (OpD.mk 3 v n dv bs).step s = s.next 4 := rfl
  rw [e1, e2] at hre
  have hx : Blk (w.alloc (.cells #[.int .i64 3, .int .u64 v, .int .i64 n, dv] 51)) w.heap.size 51 [.int .i64 3, .int .u64 v, .int .i64 n, dv] := Blk.made _ _ _
  have hlt := h.pb.lt
  have HX := Lib.hid hx
  have C := Lib.hid hc
  have hand := and_low v 32 4294967295 (by omega) rfl hv0 hv1
  clear h hd hs hg e1 e2 hc hx hby
  unfold OpD.val
  simp only
  go_enter Try.func31, Try.ntmps31
  go_wp2_with fail
  refine hre.mono ?_
  clear hre
  rintro e w1 ⟨lv, rfl, -, hr, hc⟩
  have HB := Lib.hid (HX.out.chg hc (by simp; omega))
  have R := Lib.hid hr
  have D := Lib.hid hc
  clear hr hc HX
  have c0 := HB.out.cell (j := 0) rfl
  have c1 := HB.out.cell (j := 1) rfl
  go_wp2_with fail
  have HM := HB.out.alloc (.cells #[.int .u64 255, .int .u64 65535, .int .u64 4294967295, .int .u64 18446744073709551615] 49)
  have c2 := HM.cell (j := 0) rfl
  have c3 := HM.cell (j := 1) rfl
  clear HM
  go_region
  go_wp2_with fail
  go_ret
  have hc : Chg [b] w1 ((w1.alloc (.cells #[.int .u64 255, .int .u64 65535, .int .u64 4294967295, .int .u64 18446744073709551615] 49)).drew) := ((Chg.refl _ _).alloc _).drew
  exact ⟨rfl, R.out.chg (t := []) (((Chg.refl _ _).alloc _).drew) (by simp) (by simp), ((C.out.mono (by simp)).trans D.out).trans hc⟩

set_option maxHeartbeats 1000000 in
set_option maxRecDepth 100000 in
theorem back_eight (b : Nat) (rv : Value) (s : RS) (d : OpD) (w : World) (h : Rd w b rv s) (hd : d.ok) (hk : d.k = 4) (hs : s.has d.bytes) :
    Calls Try.prog 31 #[.pointer (some ⟨b, 0, none⟩), d.val] w (Back w b rv (s.next d.bytes.length)) := by
  obtain ⟨k, v, n, dv, bs⟩ := d
  obtain rfl : k = 4 := hk
  have hby : (OpD.mk 4 v n dv bs).bytes = leBytes 8 v := rfl
  rw [hby] at hs ⊢
  have hg := hs.got
  rw [leBytes_length] at hg ⊢
  have hv0 : 0 ≤ v := hd.v0.1
  have hv1 : v ≤ 18446744073709551615 := hd.v0.2
  have hc : Chg [] w (w.alloc (.cells #[.int .i64 4, .int .u64 v, .int .i64 n, dv] 51)) := (Chg.refl _ _).alloc _
  have hre := reads_any b rv s ⟨4, v, n, dv, bs⟩ _ (h.chg hc (by simp) (by simp)) hd
  have e1 : (OpD.mk 4 v n dv bs).num s = v % 18446744073709551616 := by
    show leNum (s.got 8) = _
    rw [hg, leNum_leBytes]
    rfl
  have e2 : (OpD.mk 4 v n dv bs).step s = s.next 8 := rfl
  rw [e1, e2] at hre
  have hx : Blk (w.alloc (.cells #[.int .i64 4, .int .u64 v, .int .i64 n, dv] 51)) w.heap.size 51 [.int .i64 4, .int .u64 v, .int .i64 n, dv] := Blk.made _ _ _
  have hlt := h.pb.lt
  have HX := Lib.hid hx
  have C := Lib.hid hc
  have hand := and_low v 64 18446744073709551615 (by omega) rfl hv0 hv1
  clear h hd hs hg e1 e2 hc hx hby
  unfold OpD.val
  simp only
  go_enter Try.func31, Try.ntmps31
  go_wp2_with fail
  refine hre.mono ?_
  clear hre
  rintro e w1 ⟨lv, rfl, -, hr, hc⟩
  have HB := Lib.hid (HX.out.chg hc (by simp; omega))
  have R := Lib.hid hr
  have D := Lib.hid hc
  clear hr hc HX
  have c0 := HB.out.cell (j := 0) rfl
  have c1 := HB.out.cell (j := 1) rfl
  go_wp2_with fail
  have HM := HB.out.alloc (.cells #[.int .u64 255, .int .u64 65535, .int .u64 4294967295, .int .u64 18446744073709551615] 49)
  have c2 := HM.cell (j := 0) rfl
  have c3 := HM.cell (j := 1) rfl
  clear HM
  go_region
  go_wp2_with fail
  go_ret
  have hc : Chg [b] w1 ((w1.alloc (.cells #[.int .u64 255, .int .u64 65535, .int .u64 4294967295, .int .u64 18446744073709551615] 49)).drew) := ((Chg.refl _ _).alloc _).drew
  exact ⟨rfl, R.out.chg (t := []) (((Chg.refl _ _).alloc _).drew) (by simp) (by simp), ((C.out.mono (by simp)).trans D.out).trans hc⟩

end Go.Proofs.Ytbinoailpceonaa
