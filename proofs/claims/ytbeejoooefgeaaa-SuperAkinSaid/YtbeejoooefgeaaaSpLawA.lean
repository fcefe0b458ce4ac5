/-
  SuperAkin. By an AI agent. Printed by gen_splaws.py.
-/
import Derived.Test.YtbeejoooefgeaaaSpKnown
namespace Go.Proofs.Ytbeejoooefgeaaa
open Go.RowKit Crc

set_option maxHeartbeats 8000000 in
set_option maxRecDepth 100000 in
theorem superAkin_core (a b : Sup) (u v : Value) (w : World) (ha : Sl w u a.st) (hb : Sl w v b.st) : Calls Try.prog 4 #[a.val u, b.val v] w fun e w' => e = .returned (.bool true) ∧ Hid (Chg [] w w') := by
  obtain ⟨oa, pa, rfl⟩ := ha.slice
  obtain ⟨na, hna⟩ : ∃ n, n = a.st.length := ⟨_, rfl⟩
  rw [← hna] at *
  clear hna ha
  obtain ⟨ob, pb, rfl⟩ := hb.slice
  obtain ⟨nb, hnb⟩ : ∃ n, n = b.st.length := ⟨_, rfl⟩
  rw [← hnb] at *
  clear hnb hb
  have za : (0 : Int) ≤ na := Int.natCast_nonneg _
  have zb : (0 : Int) ≤ nb := Int.natCast_nonneg _
  have C0 : Hid (Chg [] w ((w.alloc (.cells #[.int .u64 (a.id : Int), .int .u64 (a.ev : Int), .int .u64 (a.safe : Int), .int .i64 a.role, .int .i64 a.m, .int .i64 a.c, .int .i64 a.t, .int .i64 a.ring, .bool a.lazy, .bool a.lost, .slice oa na pa, .int .i64 a.cur] 27)).alloc (.cells #[.int .u64 (b.id : Int), .int .u64 (b.ev : Int), .int .u64 (b.safe : Int), .int .i64 b.role, .int .i64 b.m, .int .i64 b.c, .int .i64 b.t, .int .i64 b.ring, .bool b.lazy, .bool b.lost, .slice ob nb pb, .int .i64 b.cur] 27))) := (((Chg.refl [] w).alloc _).alloc _)
  by_cases ca : (na : Int) ≤ 100000
  case neg =>
    unfold Sup.val
    go_enter Try.func4, Try.ntmps4
    go_wp2_with fail
    go_ret
    exact ⟨rfl, C0.out⟩
  by_cases cb : (nb : Int) ≤ 100000
  case neg =>
    unfold Sup.val
    go_enter Try.func4, Try.ntmps4
    go_wp2_with fail
    go_ret
    exact ⟨rfl, C0.out⟩
  have RA := Lib.hid (fun W' => refAkin_any a b (.slice oa na pa) (.slice ob nb pb) W')
  have KA := Lib.hid (fun W' => akin_any a b (.slice oa na pa) (.slice ob nb pb) W')
  have KB := Lib.hid (fun W' => akin_any b a (.slice ob nb pb) (.slice oa na pa) W')
  have KC := Lib.hid (fun W' => akin_any a a (.slice oa na pa) (.slice oa na pa) W')
  rw [b.akin_comm a] at KB
  rw [a.akin_self] at KC
  generalize a.akin b = k at *
  unfold Sup.val at *
  obtain ⟨x1, x2, _⟩ := two_blocks w [.int .u64 (a.id : Int), .int .u64 (a.ev : Int), .int .u64 (a.safe : Int), .int .i64 a.role, .int .i64 a.m, .int .i64 a.c, .int .i64 a.t, .int .i64 a.ring, .bool a.lazy, .bool a.lost, .slice oa na pa, .int .i64 a.cur] [.int .u64 (b.id : Int), .int .u64 (b.ev : Int), .int .u64 (b.safe : Int), .int .i64 b.role, .int .i64 b.m, .int .i64 b.c, .int .i64 b.t, .int .i64 b.ring, .bool b.lazy, .bool b.lost, .slice ob nb pb, .int .i64 b.cur] 27 27 rfl
  have A0 := Lib.hid x1
  have B0 := Lib.hid x2
  clear x1 x2
  obtain ⟨g2, hg2⟩ : ∃ g, g = w.heap.size + 1 := ⟨_, rfl⟩
  rw [← hg2] at B0
  replace hg2 := Lib.hid hg2
  go_enter Try.func4, Try.ntmps4
  go_wp2_with fail
  refine (RA.out _).mono ?_
  rintro e w1 ⟨rfl, C⟩
  have C1 : Hid (Chg [] w w1) := C0.out.trans C.out
  have A1 := Lib.hid (A0.out.chg C.out (by simp))
  have B1 := Lib.hid (B0.out.chg C.out (by simp))
  clear C C0 A0 B0 RA
  have k0 := A1.out.cell (j := 0) rfl
  have k1 := A1.out.cell (j := 1) rfl
  have k2 := A1.out.cell (j := 2) rfl
  have k3 := A1.out.cell (j := 3) rfl
  have k4 := A1.out.cell (j := 4) rfl
  have k5 := A1.out.cell (j := 5) rfl
  have k6 := A1.out.cell (j := 6) rfl
  have k7 := A1.out.cell (j := 7) rfl
  have k8 := A1.out.cell (j := 8) rfl
  have k9 := A1.out.cell (j := 9) rfl
  have k10 := A1.out.cell (j := 10) rfl
  have k11 := A1.out.cell (j := 11) rfl
  have q0 := B1.out.cell (j := 0) rfl
  have q1 := B1.out.cell (j := 1) rfl
  have q2 := B1.out.cell (j := 2) rfl
  have q3 := B1.out.cell (j := 3) rfl
  have q4 := B1.out.cell (j := 4) rfl
  have q5 := B1.out.cell (j := 5) rfl
  have q6 := B1.out.cell (j := 6) rfl
  have q7 := B1.out.cell (j := 7) rfl
  have q8 := B1.out.cell (j := 8) rfl
  have q9 := B1.out.cell (j := 9) rfl
  have q10 := B1.out.cell (j := 10) rfl
  have q11 := B1.out.cell (j := 11) rfl
  rw [hg2.out] at q0 q1 q2 q3 q4 q5 q6 q7 q8 q9 q10 q11
  go_wp2_with fail
  clear k0 k1 k2 k3 k4 k5 k6 k7 k8 k9 k10 k11 q0 q1 q2 q3 q4 q5 q6 q7 q8 q9 q10 q11
  refine (known_any _).mono ?_
  rintro e w2 ⟨rfl, C⟩
  have C2 : Hid (Chg [] w w2) := C1.out.trans C.out
  have A2 := Lib.hid (A1.out.chg C.out (by simp))
  have B2 := Lib.hid (B1.out.chg C.out (by simp))
  clear C C1 A1 B1 
  have k0 := A2.out.cell (j := 0) rfl
  have k1 := A2.out.cell (j := 1) rfl
  have k2 := A2.out.cell (j := 2) rfl
  have k3 := A2.out.cell (j := 3) rfl
  have k4 := A2.out.cell (j := 4) rfl
  have k5 := A2.out.cell (j := 5) rfl
  have k6 := A2.out.cell (j := 6) rfl
  have k7 := A2.out.cell (j := 7) rfl
  have k8 := A2.out.cell (j := 8) rfl
  have k9 := A2.out.cell (j := 9) rfl
  have k10 := A2.out.cell (j := 10) rfl
  have k11 := A2.out.cell (j := 11) rfl
  have q0 := B2.out.cell (j := 0) rfl
  have q1 := B2.out.cell (j := 1) rfl
  have q2 := B2.out.cell (j := 2) rfl
  have q3 := B2.out.cell (j := 3) rfl
  have q4 := B2.out.cell (j := 4) rfl
  have q5 := B2.out.cell (j := 5) rfl
  have q6 := B2.out.cell (j := 6) rfl
  have q7 := B2.out.cell (j := 7) rfl
  have q8 := B2.out.cell (j := 8) rfl
  have q9 := B2.out.cell (j := 9) rfl
  have q10 := B2.out.cell (j := 10) rfl
  have q11 := B2.out.cell (j := 11) rfl
  rw [hg2.out] at q0 q1 q2 q3 q4 q5 q6 q7 q8 q9 q10 q11
  go_wp2_with fail
  clear k0 k1 k2 k3 k4 k5 k6 k7 k8 k9 k10 k11 q0 q1 q2 q3 q4 q5 q6 q7 q8 q9 q10 q11
  refine (KA.out _).mono ?_
  rintro e w3 ⟨rfl, C⟩
  have C3 : Hid (Chg [] w w3) := C2.out.trans C.out
  have A3 := Lib.hid (A2.out.chg C.out (by simp))
  have B3 := Lib.hid (B2.out.chg C.out (by simp))
  clear C C2 A2 B2 KA
  have k0 := A3.out.cell (j := 0) rfl
  have k1 := A3.out.cell (j := 1) rfl
  have k2 := A3.out.cell (j := 2) rfl
  have k3 := A3.out.cell (j := 3) rfl
  have k4 := A3.out.cell (j := 4) rfl
  have k5 := A3.out.cell (j := 5) rfl
  have k6 := A3.out.cell (j := 6) rfl
  have k7 := A3.out.cell (j := 7) rfl
  have k8 := A3.out.cell (j := 8) rfl
  have k9 := A3.out.cell (j := 9) rfl
  have k10 := A3.out.cell (j := 10) rfl
  have k11 := A3.out.cell (j := 11) rfl
  have q0 := B3.out.cell (j := 0) rfl
  have q1 := B3.out.cell (j := 1) rfl
  have q2 := B3.out.cell (j := 2) rfl
  have q3 := B3.out.cell (j := 3) rfl
  have q4 := B3.out.cell (j := 4) rfl
  have q5 := B3.out.cell (j := 5) rfl
  have q6 := B3.out.cell (j := 6) rfl
  have q7 := B3.out.cell (j := 7) rfl
  have q8 := B3.out.cell (j := 8) rfl
  have q9 := B3.out.cell (j := 9) rfl
  have q10 := B3.out.cell (j := 10) rfl
  have q11 := B3.out.cell (j := 11) rfl
  rw [hg2.out] at q0 q1 q2 q3 q4 q5 q6 q7 q8 q9 q10 q11
  go_wp2_with fail
  clear k0 k1 k2 k3 k4 k5 k6 k7 k8 k9 k10 k11 q0 q1 q2 q3 q4 q5 q6 q7 q8 q9 q10 q11
  refine (KB.out _).mono ?_
  rintro e w4 ⟨rfl, C⟩
  have C4 : Hid (Chg [] w w4) := C3.out.trans C.out
  have A4 := Lib.hid (A3.out.chg C.out (by simp))
  have B4 := Lib.hid (B3.out.chg C.out (by simp))
  clear C C3 A3 B3 KB
  have k0 := A4.out.cell (j := 0) rfl
  have k1 := A4.out.cell (j := 1) rfl
  have k2 := A4.out.cell (j := 2) rfl
  have k3 := A4.out.cell (j := 3) rfl
  have k4 := A4.out.cell (j := 4) rfl
  have k5 := A4.out.cell (j := 5) rfl
  have k6 := A4.out.cell (j := 6) rfl
  have k7 := A4.out.cell (j := 7) rfl
  have k8 := A4.out.cell (j := 8) rfl
  have k9 := A4.out.cell (j := 9) rfl
  have k10 := A4.out.cell (j := 10) rfl
  have k11 := A4.out.cell (j := 11) rfl
  have q0 := B4.out.cell (j := 0) rfl
  have q1 := B4.out.cell (j := 1) rfl
  have q2 := B4.out.cell (j := 2) rfl
  have q3 := B4.out.cell (j := 3) rfl
  have q4 := B4.out.cell (j := 4) rfl
  have q5 := B4.out.cell (j := 5) rfl
  have q6 := B4.out.cell (j := 6) rfl
  have q7 := B4.out.cell (j := 7) rfl
  have q8 := B4.out.cell (j := 8) rfl
  have q9 := B4.out.cell (j := 9) rfl
  have q10 := B4.out.cell (j := 10) rfl
  have q11 := B4.out.cell (j := 11) rfl
  rw [hg2.out] at q0 q1 q2 q3 q4 q5 q6 q7 q8 q9 q10 q11
  go_wp2_with fail
  clear k0 k1 k2 k3 k4 k5 k6 k7 k8 k9 k10 k11 q0 q1 q2 q3 q4 q5 q6 q7 q8 q9 q10 q11
  refine (KC.out _).mono ?_
  rintro e w5 ⟨rfl, C⟩
  have C5 : Hid (Chg [] w w5) := C4.out.trans C.out
  have A5 := Lib.hid (A4.out.chg C.out (by simp))
  have B5 := Lib.hid (B4.out.chg C.out (by simp))
  clear C C4 A4 B4 KC
  go_wp2_with fail
  go_ret
  exact ⟨by first | rfl | simp, C5⟩

theorem superAkin_walk (a b : Sup) (u v : Value) (w : World) (ha : Sl w u a.st) (hb : Sl w v b.st) : Calls Try.prog 4 #[a.val u, b.val v] w fun e w' => e = .returned (.bool true) ∧ Chg [] w w' :=
  (superAkin_core a b u v w ha hb).mono fun _ _ h => ⟨h.1, h.2.out⟩

end Go.Proofs.Ytbeejoooefgeaaa
