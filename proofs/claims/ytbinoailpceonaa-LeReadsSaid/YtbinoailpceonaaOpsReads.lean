/-
  What the statements' 'reads' and 'back' do. By an AI agent.
-/
import Derived.Test.YtbinoailpceonaaOpsFns
namespace Go.Proofs.Ytbinoailpceonaa
open Go.RowKit

/-- The number that a call reads, the bytes that it reads, and what it leaves. -/
def OpD.num (d : OpD) (s : RS) : Int := if d.k = 1 then leNum (s.got 1) else if d.k = 2 then leNum (s.got 2) else if d.k = 3 then leNum (s.got 4) else if d.k = 4 then leNum (s.got 8) else 0
def OpD.list (d : OpD) (s : RS) : List Int := if d.k = 5 then s.got d.n.toNat else []
def OpD.step (d : OpD) (s : RS) : RS :=
  if d.k = 1 then s.next 1 else if d.k = 2 then s.next 2 else if d.k = 3 then s.next 4 else if d.k = 4 then s.next 8 else if d.k = 5 then s.next d.n.toNat else if d.k = 6 then s.skip d.n.toNat else s

/-- What 'reads' tells. -/
def Reads (w : World) (b : Nat) (v : Value) (x : Int) (l : List Int) (s' : RS) (e : Ending) (w' : World) : Prop :=
  ∃ rv, e = .returned (.tuple #[.int .u64 x, rv]) ∧ w'.ownsRow w.heap.size 5 1 rv l.length (l.map (Value.int .u8)) ∧ Rd w' b v s' ∧ Chg [b] w w'

set_option maxHeartbeats 1000000 in
theorem reads_any (b : Nat) (rv : Value) (s : RS) (d : OpD) (w : World) (h : Rd w b rv s) (hd : d.ok) :
    Calls Try.prog 25 #[.pointer (some ⟨b, 0, none⟩), d.val] w (Reads w b rv (d.num s) (d.list s) (d.step s)) := by
  obtain ⟨k, v, n, dv, bs⟩ := d
  have hc : Chg [] w (w.alloc (.cells #[.int .i64 k, .int .u64 v, .int .i64 n, dv] 51)) := (Chg.refl _ _).alloc _
  have P := Lib.hid (h.chg hc (by simp) (by simp))
  have C := Lib.hid hc
  have HD := Lib.hid hd
  have bnd : ∀ n m : Nat, n ≤ m → m ≤ 8 → 0 ≤ leNum (s.got n) ∧ leNum (s.got n) < 2 ^ (8 * m) := by
    intro n m hn hm
    have hr := leNum_range _ (RS.got_by h.byt n)
    have hl := RS.got_len s n
    have := pow2_le (a := 8 * (s.got n).length) (b := 8 * m) (by omega)
    exact ⟨hr.1, by omega⟩
  have B1 := bnd 1 1 (by omega) (by omega)
  have B2 := bnd 2 2 (by omega) (by omega)
  have B4 := bnd 4 4 (by omega) (by omega)
  have B8 := bnd 8 8 (by omega) (by omega)
  rw [show (2 : Int) ^ (8 * 1) = 256 from rfl] at B1
  rw [show (2 : Int) ^ (8 * 2) = 65536 from rfl] at B2
  rw [show (2 : Int) ^ (8 * 4) = 4294967296 from rfl] at B4
  rw [show (2 : Int) ^ (8 * 8) = 18446744073709551616 from rfl] at B8
  have B1 := Lib.hid B1
  have B2 := Lib.hid B2
  have B4 := Lib.hid B4
  have B8 := Lib.hid B8
  have HR := Lib.hid h
  clear h hd hc bnd
  unfold OpD.val OpD.num OpD.list OpD.step
  simp only
  by_cases k1 : k = 1
  · rw [if_pos k1, if_pos k1, if_neg (by omega)]
    subst k1
    have u0 := B1.out.1
    have u1 := B1.out.2
    have hu := u8R_any b rv s _ P.out
    generalize leNum (s.got 1) = x at *
    go_enter Try.func25, Try.ntmps25
    go_wp2_with fail
    refine hu.mono ?_
    rintro e w1 ⟨rfl, hr, hc⟩
    have Q := Lib.hid hr
    have D := Lib.hid hc
    clear hr hc hu
    go_wp2_with fail
    go_ret2
    exact ⟨_, rfl, World.ownsRow_nil _ _ _ _, Q.out, (C.out.mono (by simp)).trans D.out⟩
  rw [if_neg k1, if_neg k1]
  have b1 : (k == 1) = false := by simpa using k1
  by_cases k2 : k = 2
  · rw [if_pos k2, if_pos k2, if_neg (by omega)]
    subst k2
    have u0 := B2.out.1
    have u1 := B2.out.2
    have hu := u16R_any b rv s _ P.out
    generalize leNum (s.got 2) = x at *
    go_enter Try.func25, Try.ntmps25
    go_wp2_with fail
    refine hu.mono ?_
    rintro e w1 ⟨rfl, hr, hc⟩
    have Q := Lib.hid hr
    have D := Lib.hid hc
    clear hr hc hu
    go_wp2_with fail
    go_ret2
    exact ⟨_, rfl, World.ownsRow_nil _ _ _ _, Q.out, (C.out.mono (by simp)).trans D.out⟩
  rw [if_neg k2, if_neg k2]
  have b2 : (k == 2) = false := by simpa using k2
  by_cases k3 : k = 3
  · rw [if_pos k3, if_pos k3, if_neg (by omega)]
    subst k3
    have u0 := B4.out.1
    have u1 := B4.out.2
    have hu := u32R_any b rv s _ P.out
    generalize leNum (s.got 4) = x at *
    go_enter Try.func25, Try.ntmps25
    go_wp2_with fail
    refine hu.mono ?_
    rintro e w1 ⟨rfl, hr, hc⟩
    have Q := Lib.hid hr
    have D := Lib.hid hc
    clear hr hc hu
    go_wp2_with fail
    go_ret2
    exact ⟨_, rfl, World.ownsRow_nil _ _ _ _, Q.out, (C.out.mono (by simp)).trans D.out⟩
  rw [if_neg k3, if_neg k3]
  have b3 : (k == 3) = false := by simpa using k3
  by_cases k4 : k = 4
  · rw [if_pos k4, if_pos k4, if_neg (by omega)]
    subst k4
    have u0 := B8.out.1
    have u1 := B8.out.2
    have hu := u64R_any b rv s _ P.out
    generalize leNum (s.got 8) = x at *
    go_enter Try.func25, Try.ntmps25
    go_wp2_with fail
    refine hu.mono ?_
    rintro e w1 ⟨rfl, hr, hc⟩
    have Q := Lib.hid hr
    have D := Lib.hid hc
    clear hr hc hu
    go_wp2_with fail
    go_ret2
    exact ⟨_, rfl, World.ownsRow_nil _ _ _ _, Q.out, (C.out.mono (by simp)).trans D.out⟩
  rw [if_neg k4, if_neg k4]
  have b4 : (k == 4) = false := by simpa using k4
  by_cases k5 : k = 5
  · rw [if_pos k5, if_pos k5]
    subst k5
    clear k1 k2 k3 k4
    have hu := rawR_any b rv s n _ P.out HD.out.n0.2
    go_enter Try.func25, Try.ntmps25
    go_wp2_with fail
    refine hu.mono ?_
    rintro e w1 ⟨lv, rfl, ho, hr, hc⟩
    have O := Lib.hid ho
    have Q := Lib.hid hr
    have D := Lib.hid hc
    clear ho hr hc hu
    go_wp2_with fail
    go_ret2
    exact ⟨_, rfl, ownsRow_base O.out C.out.size, Q.out, (C.out.mono (by simp)).trans D.out⟩
  rw [if_neg k5, if_neg k5]
  have b5 : (k == 5) = false := by simpa using k5
  clear k1 k2 k3 k4 k5
  by_cases k6 : k = 6
  · rw [if_pos k6]
    subst k6
    have hu := noughts_any b rv s n _ P.out HD.out.n0.2
    go_enter Try.func25, Try.ntmps25
    go_wp2_with fail
    refine hu.mono ?_
    rintro e w1 ⟨rfl, hr, hc⟩
    have Q := Lib.hid hr
    have D := Lib.hid hc
    clear hr hc hu
    go_wp2_with fail
    go_ret2
    exact ⟨_, rfl, World.ownsRow_nil _ _ _ _, Q.out, (C.out.mono (by simp)).trans D.out⟩
  rw [if_neg k6]
  have b6 : (k == 6) = false := by simpa using k6
  clear k6
  go_enter Try.func25, Try.ntmps25
  go_wp2_with fail
  go_ret2
  exact ⟨_, rfl, World.ownsRow_nil _ _ _ _, P.out, C.out.mono (by simp)⟩
end Go.Proofs.Ytbinoailpceonaa
