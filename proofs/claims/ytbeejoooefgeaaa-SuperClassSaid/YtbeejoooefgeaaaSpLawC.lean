/-
  SuperClass. By an AI agent. Printed by gen_splaws.py.
-/
import Derived.Test.YtbeejoooefgeaaaSpKnown
import Derived.Deep.RegionHeld3
import Derived.Deep.CutBlock
import Derived.Deep.DeepCutAuto
namespace Go.Proofs.Ytbeejoooefgeaaa
open Go.RowKit Crc

theorem three_named (w W : World) (xs ys zs : List Value) (t1 t2 t3 : TypeId) (h : W = (((w.alloc (.cells xs.toArray t1)).alloc (.cells ys.toArray t2)).alloc (.cells zs.toArray t3))) :
    Blk W w.heap.size t1 xs ∧ Blk W (w.heap.size + 1) t2 ys ∧ Blk W (w.heap.size + 1 + 1) t3 zs ∧ Chg [] w W := by
  subst h
  exact three_blocks w xs ys zs t1 t2 t3

set_option maxHeartbeats 8000000 in
set_option maxRecDepth 100000 in
theorem superClass_core (a b c : Sup) (u v x : Value) (w : World) (ha : Sl w u a.st) (hb : Sl w v b.st) (hc : Sl w x c.st) : Calls Try.prog 5 #[a.val u, b.val v, c.val x] w fun e w' => e = .returned (.bool true) ∧ Hid (Chg [] w w') := by
  obtain ⟨oa, pa, rfl⟩ := ha.slice
  obtain ⟨na, hna⟩ : ∃ n, n = a.st.length := ⟨_, rfl⟩
  rw [← hna] at *
  clear hna ha
  obtain ⟨ob, pb, rfl⟩ := hb.slice
  obtain ⟨nb, hnb⟩ : ∃ n, n = b.st.length := ⟨_, rfl⟩
  rw [← hnb] at *
  clear hnb hb
  obtain ⟨oc, pc, rfl⟩ := hc.slice
  obtain ⟨nc, hnc⟩ : ∃ n, n = c.st.length := ⟨_, rfl⟩
  rw [← hnc] at *
  clear hnc hc
  have za : (0 : Int) ≤ na := Int.natCast_nonneg _
  have zb : (0 : Int) ≤ nb := Int.natCast_nonneg _
  have zc : (0 : Int) ≤ nc := Int.natCast_nonneg _
  have C0 : Hid (Chg [] w (((w.alloc (.cells #[.int .u64 (a.id : Int), .int .u64 (a.ev : Int), .int .u64 (a.safe : Int), .int .i64 a.role, .int .i64 a.m, .int .i64 a.c, .int .i64 a.t, .int .i64 a.ring, .bool a.lazy, .bool a.lost, .slice oa na pa, .int .i64 a.cur] 27)).alloc (.cells #[.int .u64 (b.id : Int), .int .u64 (b.ev : Int), .int .u64 (b.safe : Int), .int .i64 b.role, .int .i64 b.m, .int .i64 b.c, .int .i64 b.t, .int .i64 b.ring, .bool b.lazy, .bool b.lost, .slice ob nb pb, .int .i64 b.cur] 27)).alloc (.cells #[.int .u64 (c.id : Int), .int .u64 (c.ev : Int), .int .u64 (c.safe : Int), .int .i64 c.role, .int .i64 c.m, .int .i64 c.c, .int .i64 c.t, .int .i64 c.ring, .bool c.lazy, .bool c.lost, .slice oc nc pc, .int .i64 c.cur] 27))) := ((((Chg.refl [] w).alloc _).alloc _).alloc _)
  by_cases ca : (na : Int) ≤ 100000
  case neg =>
    unfold Sup.val
    go_enter Try.func5, Try.ntmps5
    go_wp2_with fail
    go_ret
    exact ⟨rfl, C0.out⟩
  by_cases cb : (nb : Int) ≤ 100000
  case neg =>
    unfold Sup.val
    go_enter Try.func5, Try.ntmps5
    go_wp2_with fail
    go_ret
    exact ⟨rfl, C0.out⟩
  by_cases cc : (nc : Int) ≤ 100000
  case neg =>
    unfold Sup.val
    go_enter Try.func5, Try.ntmps5
    go_wp2_with fail
    go_ret
    exact ⟨rfl, C0.out⟩
  have KAB := Lib.hid (fun W' => akin_any a b (.slice oa na pa) (.slice ob nb pb) W')
  have KBC := Lib.hid (fun W' => akin_any b c (.slice ob nb pb) (.slice oc nc pc) W')
  have KAC := Lib.hid (fun W' => akin_any a c (.slice oa na pa) (.slice oc nc pc) W')
  have KAA := Lib.hid (fun W' => akin_any a a (.slice oa na pa) (.slice oa na pa) W')
  have KBB := Lib.hid (fun W' => akin_any b b (.slice ob nb pb) (.slice ob nb pb) W')
  have KCC := Lib.hid (fun W' => akin_any c c (.slice oc nc pc) (.slice oc nc pc) W')
  have KBA := Lib.hid (fun W' => akin_any b a (.slice ob nb pb) (.slice oa na pa) W')
  have KCB := Lib.hid (fun W' => akin_any c b (.slice oc nc pc) (.slice ob nb pb) W')
  have KCA := Lib.hid (fun W' => akin_any c a (.slice oc nc pc) (.slice oa na pa) W')
  rw [b.akin_comm a] at KBA
  rw [c.akin_comm b] at KCB
  rw [c.akin_comm a] at KCA
  rw [a.akin_self] at KAA
  rw [b.akin_self] at KBB
  rw [c.akin_self] at KCC
  have TR : a.akin b = true → b.akin c = a.akin c := fun h => Sup.akin_trans h
  generalize a.akin b = k1 at *
  generalize b.akin c = k2 at *
  generalize a.akin c = k3 at *
  have HS : (k1 = false ∧ k2 = false ∧ k3 = false) ∨ (k1 = false ∧ k2 = false ∧ k3 = true) ∨ (k1 = false ∧ k2 = true ∧ k3 = false) ∨ (k1 = false ∧ k2 = true ∧ k3 = true) ∨ (k1 = true ∧ k2 = true ∧ k3 = true) ∨ (k1 = true ∧ k2 = false ∧ k3 = false) := by
    cases k1 <;> cases k2 <;> cases k3 <;> simp at TR ⊢
  replace HS := Lib.hid HS
  clear TR
  unfold Sup.val at *
  go_enter Try.func5, Try.ntmps5
  go_upto_region 3 with fail
  refine wp_named (fun W hW => ?_)
  obtain ⟨x1, x2, x3, x4⟩ := three_named w W [.int .u64 (a.id : Int), .int .u64 (a.ev : Int), .int .u64 (a.safe : Int), .int .i64 a.role, .int .i64 a.m, .int .i64 a.c, .int .i64 a.t, .int .i64 a.ring, .bool a.lazy, .bool a.lost, .slice oa na pa, .int .i64 a.cur] [.int .u64 (b.id : Int), .int .u64 (b.ev : Int), .int .u64 (b.safe : Int), .int .i64 b.role, .int .i64 b.m, .int .i64 b.c, .int .i64 b.t, .int .i64 b.ring, .bool b.lazy, .bool b.lost, .slice ob nb pb, .int .i64 b.cur] [.int .u64 (c.id : Int), .int .u64 (c.ev : Int), .int .u64 (c.safe : Int), .int .i64 c.role, .int .i64 c.m, .int .i64 c.c, .int .i64 c.t, .int .i64 c.ring, .bool c.lazy, .bool c.lost, .slice oc nc pc, .int .i64 c.cur] 27 27 27 hW
  obtain ⟨g2, hg2⟩ : ∃ g, g = w.heap.size + 1 := ⟨_, rfl⟩
  obtain ⟨g3, hg3⟩ : ∃ g, g = w.heap.size + 1 + 1 := ⟨_, rfl⟩
  have A0 := Lib.hid x1
  have B0 := Lib.hid x2
  have D0 := Lib.hid x3
  replace C0 := Lib.hid x4
  rw [← hg3] at D0 ⊢
  rw [← hg2] at B0 ⊢
  replace hg2 := Lib.hid hg2
  replace hg3 := Lib.hid hg3
  clear x1 x2 x3 x4 hW
  have KK : Hid (∀ w', Chg [] W w' → w'.cell? ⟨w.heap.size, 0, none⟩ = some (.int .u64 (a.id : Int)) ∧ w'.cell? ⟨w.heap.size, 1, none⟩ = some (.int .u64 (a.ev : Int)) ∧ w'.cell? ⟨w.heap.size, 2, none⟩ = some (.int .u64 (a.safe : Int)) ∧ w'.cell? ⟨w.heap.size, 3, none⟩ = some (.int .i64 a.role) ∧ w'.cell? ⟨w.heap.size, 4, none⟩ = some (.int .i64 a.m) ∧ w'.cell? ⟨w.heap.size, 5, none⟩ = some (.int .i64 a.c) ∧ w'.cell? ⟨w.heap.size, 6, none⟩ = some (.int .i64 a.t) ∧ w'.cell? ⟨w.heap.size, 7, none⟩ = some (.int .i64 a.ring) ∧ w'.cell? ⟨w.heap.size, 8, none⟩ = some (.bool a.lazy) ∧ w'.cell? ⟨w.heap.size, 9, none⟩ = some (.bool a.lost) ∧ w'.cell? ⟨w.heap.size, 10, none⟩ = some (.slice oa na pa) ∧ w'.cell? ⟨w.heap.size, 11, none⟩ = some (.int .i64 a.cur) ∧ w'.cell? ⟨g2, 0, none⟩ = some (.int .u64 (b.id : Int)) ∧ w'.cell? ⟨g2, 1, none⟩ = some (.int .u64 (b.ev : Int)) ∧ w'.cell? ⟨g2, 2, none⟩ = some (.int .u64 (b.safe : Int)) ∧ w'.cell? ⟨g2, 3, none⟩ = some (.int .i64 b.role) ∧ w'.cell? ⟨g2, 4, none⟩ = some (.int .i64 b.m) ∧ w'.cell? ⟨g2, 5, none⟩ = some (.int .i64 b.c) ∧ w'.cell? ⟨g2, 6, none⟩ = some (.int .i64 b.t) ∧ w'.cell? ⟨g2, 7, none⟩ = some (.int .i64 b.ring) ∧ w'.cell? ⟨g2, 8, none⟩ = some (.bool b.lazy) ∧ w'.cell? ⟨g2, 9, none⟩ = some (.bool b.lost) ∧ w'.cell? ⟨g2, 10, none⟩ = some (.slice ob nb pb) ∧ w'.cell? ⟨g2, 11, none⟩ = some (.int .i64 b.cur) ∧ w'.cell? ⟨g3, 0, none⟩ = some (.int .u64 (c.id : Int)) ∧ w'.cell? ⟨g3, 1, none⟩ = some (.int .u64 (c.ev : Int)) ∧ w'.cell? ⟨g3, 2, none⟩ = some (.int .u64 (c.safe : Int)) ∧ w'.cell? ⟨g3, 3, none⟩ = some (.int .i64 c.role) ∧ w'.cell? ⟨g3, 4, none⟩ = some (.int .i64 c.m) ∧ w'.cell? ⟨g3, 5, none⟩ = some (.int .i64 c.c) ∧ w'.cell? ⟨g3, 6, none⟩ = some (.int .i64 c.t) ∧ w'.cell? ⟨g3, 7, none⟩ = some (.int .i64 c.ring) ∧ w'.cell? ⟨g3, 8, none⟩ = some (.bool c.lazy) ∧ w'.cell? ⟨g3, 9, none⟩ = some (.bool c.lost) ∧ w'.cell? ⟨g3, 10, none⟩ = some (.slice oc nc pc) ∧ w'.cell? ⟨g3, 11, none⟩ = some (.int .i64 c.cur)) := fun w' c => ⟨(A0.out.chg c (by simp)).cell (j := 0) rfl, (A0.out.chg c (by simp)).cell (j := 1) rfl, (A0.out.chg c (by simp)).cell (j := 2) rfl, (A0.out.chg c (by simp)).cell (j := 3) rfl, (A0.out.chg c (by simp)).cell (j := 4) rfl, (A0.out.chg c (by simp)).cell (j := 5) rfl, (A0.out.chg c (by simp)).cell (j := 6) rfl, (A0.out.chg c (by simp)).cell (j := 7) rfl, (A0.out.chg c (by simp)).cell (j := 8) rfl, (A0.out.chg c (by simp)).cell (j := 9) rfl, (A0.out.chg c (by simp)).cell (j := 10) rfl, (A0.out.chg c (by simp)).cell (j := 11) rfl, (B0.out.chg c (by simp)).cell (j := 0) rfl, (B0.out.chg c (by simp)).cell (j := 1) rfl, (B0.out.chg c (by simp)).cell (j := 2) rfl, (B0.out.chg c (by simp)).cell (j := 3) rfl, (B0.out.chg c (by simp)).cell (j := 4) rfl, (B0.out.chg c (by simp)).cell (j := 5) rfl, (B0.out.chg c (by simp)).cell (j := 6) rfl, (B0.out.chg c (by simp)).cell (j := 7) rfl, (B0.out.chg c (by simp)).cell (j := 8) rfl, (B0.out.chg c (by simp)).cell (j := 9) rfl, (B0.out.chg c (by simp)).cell (j := 10) rfl, (B0.out.chg c (by simp)).cell (j := 11) rfl, (D0.out.chg c (by simp)).cell (j := 0) rfl, (D0.out.chg c (by simp)).cell (j := 1) rfl, (D0.out.chg c (by simp)).cell (j := 2) rfl, (D0.out.chg c (by simp)).cell (j := 3) rfl, (D0.out.chg c (by simp)).cell (j := 4) rfl, (D0.out.chg c (by simp)).cell (j := 5) rfl, (D0.out.chg c (by simp)).cell (j := 6) rfl, (D0.out.chg c (by simp)).cell (j := 7) rfl, (D0.out.chg c (by simp)).cell (j := 8) rfl, (D0.out.chg c (by simp)).cell (j := 9) rfl, (D0.out.chg c (by simp)).cell (j := 10) rfl, (D0.out.chg c (by simp)).cell (j := 11) rfl⟩
  have Q0 : Hid (Chg [] W W.drew) := (Chg.refl [] W).drewN 1
  go_region_held3 (fun w' : World => w'.cell? ⟨w.heap.size, 0, none⟩ = some (.int .u64 (a.id : Int)) ∧ w'.cell? ⟨w.heap.size, 1, none⟩ = some (.int .u64 (a.ev : Int)) ∧ w'.cell? ⟨w.heap.size, 2, none⟩ = some (.int .u64 (a.safe : Int)) ∧ w'.cell? ⟨w.heap.size, 3, none⟩ = some (.int .i64 a.role) ∧ w'.cell? ⟨w.heap.size, 4, none⟩ = some (.int .i64 a.m) ∧ w'.cell? ⟨w.heap.size, 5, none⟩ = some (.int .i64 a.c) ∧ w'.cell? ⟨w.heap.size, 6, none⟩ = some (.int .i64 a.t) ∧ w'.cell? ⟨w.heap.size, 7, none⟩ = some (.int .i64 a.ring) ∧ w'.cell? ⟨w.heap.size, 8, none⟩ = some (.bool a.lazy) ∧ w'.cell? ⟨w.heap.size, 9, none⟩ = some (.bool a.lost) ∧ w'.cell? ⟨w.heap.size, 10, none⟩ = some (.slice oa na pa) ∧ w'.cell? ⟨w.heap.size, 11, none⟩ = some (.int .i64 a.cur) ∧ w'.cell? ⟨g2, 0, none⟩ = some (.int .u64 (b.id : Int)) ∧ w'.cell? ⟨g2, 1, none⟩ = some (.int .u64 (b.ev : Int)) ∧ w'.cell? ⟨g2, 2, none⟩ = some (.int .u64 (b.safe : Int)) ∧ w'.cell? ⟨g2, 3, none⟩ = some (.int .i64 b.role) ∧ w'.cell? ⟨g2, 4, none⟩ = some (.int .i64 b.m) ∧ w'.cell? ⟨g2, 5, none⟩ = some (.int .i64 b.c) ∧ w'.cell? ⟨g2, 6, none⟩ = some (.int .i64 b.t) ∧ w'.cell? ⟨g2, 7, none⟩ = some (.int .i64 b.ring) ∧ w'.cell? ⟨g2, 8, none⟩ = some (.bool b.lazy) ∧ w'.cell? ⟨g2, 9, none⟩ = some (.bool b.lost) ∧ w'.cell? ⟨g2, 10, none⟩ = some (.slice ob nb pb) ∧ w'.cell? ⟨g2, 11, none⟩ = some (.int .i64 b.cur) ∧ w'.cell? ⟨g3, 0, none⟩ = some (.int .u64 (c.id : Int)) ∧ w'.cell? ⟨g3, 1, none⟩ = some (.int .u64 (c.ev : Int)) ∧ w'.cell? ⟨g3, 2, none⟩ = some (.int .u64 (c.safe : Int)) ∧ w'.cell? ⟨g3, 3, none⟩ = some (.int .i64 c.role) ∧ w'.cell? ⟨g3, 4, none⟩ = some (.int .i64 c.m) ∧ w'.cell? ⟨g3, 5, none⟩ = some (.int .i64 c.c) ∧ w'.cell? ⟨g3, 6, none⟩ = some (.int .i64 c.t) ∧ w'.cell? ⟨g3, 7, none⟩ = some (.int .i64 c.ring) ∧ w'.cell? ⟨g3, 8, none⟩ = some (.bool c.lazy) ∧ w'.cell? ⟨g3, 9, none⟩ = some (.bool c.lost) ∧ w'.cell? ⟨g3, 10, none⟩ = some (.slice oc nc pc) ∧ w'.cell? ⟨g3, 11, none⟩ = some (.int .i64 c.cur)) (first | exact KK.out _ Q3.out | exact KK.out _ Q2.out | exact KK.out _ Q1.out | exact KK.out _ Q0.out) (first
    | (go_at_call 18; (with_reducible refine (KAB.out _).mono ?_); rintro e w1 ⟨rfl, C⟩; have Q1 : Hid (Chg [] W w1) := Q0.out.trans C.out; clear C)
    | (go_at_call 18; (with_reducible refine (KBC.out _).mono ?_); rintro e w2 ⟨rfl, C⟩; have Q2 : Hid (Chg [] W w2) := Q1.out.trans C.out; clear C)
    | (go_at_call 18; (with_reducible refine (KAC.out _).mono ?_); rintro e w3 ⟨rfl, C⟩; have Q3 : Hid (Chg [] W w3) := Q2.out.trans C.out; clear C))
  have C1 : Hid (Chg [] w w3) := C0.out.trans Q3.out
  have A1 := Lib.hid (A0.out.chg Q3.out (by simp))
  have B1 := Lib.hid (B0.out.chg Q3.out (by simp))
  have D1 := Lib.hid (D0.out.chg Q3.out (by simp))
  clear KK Q0 Q1 Q2 Q3 C0 A0 B0 D0 KAB KBC KAC
  have k0 := A1.out.cell (j := 0) rfl
  have k1 := A1.out.cell (j := 1) rfl
  have k2 := A1.out.cell (j := 2) rfl
  have k3 := A1.out.cell (j := 3) rfl
  have k4 := A1.out.cell (j := 4) rfl
  have k5 := A1.out.cell (j := 5) rfl
  have k6 := A1.out.cell (j := 6) rfl
  have k7 := A1.out.cell (j := 7) rfl
  have k8 := A1.out.cell (j := 8) rfl
  have k9 := A1.out.cell (j := 9) rfl
  have k10 := A1.out.cell (j := 10) rfl
  have k11 := A1.out.cell (j := 11) rfl
  go_wp2_with fail
  clear k0 k1 k2 k3 k4 k5 k6 k7 k8 k9 k10 k11
  refine (KAA.out _).mono ?_
  rintro e w4 ⟨rfl, C⟩
  have C2 : Hid (Chg [] w w4) := C1.out.trans C.out
  have A2 := Lib.hid (A1.out.chg C.out (by simp))
  have B2 := Lib.hid (B1.out.chg C.out (by simp))
  have D2 := Lib.hid (D1.out.chg C.out (by simp))
  clear C C1 A1 B1 D1 KAA
  have q0 := B2.out.cell (j := 0) rfl
  have q1 := B2.out.cell (j := 1) rfl
  have q2 := B2.out.cell (j := 2) rfl
  have q3 := B2.out.cell (j := 3) rfl
  have q4 := B2.out.cell (j := 4) rfl
  have q5 := B2.out.cell (j := 5) rfl
  have q6 := B2.out.cell (j := 6) rfl
  have q7 := B2.out.cell (j := 7) rfl
  have q8 := B2.out.cell (j := 8) rfl
  have q9 := B2.out.cell (j := 9) rfl
  have q10 := B2.out.cell (j := 10) rfl
  have q11 := B2.out.cell (j := 11) rfl
  go_wp2_with fail
  clear q0 q1 q2 q3 q4 q5 q6 q7 q8 q9 q10 q11
  refine (KBB.out _).mono ?_
  rintro e w5 ⟨rfl, C⟩
  have C3 : Hid (Chg [] w w5) := C2.out.trans C.out
  have A3 := Lib.hid (A2.out.chg C.out (by simp))
  have B3 := Lib.hid (B2.out.chg C.out (by simp))
  have D3 := Lib.hid (D2.out.chg C.out (by simp))
  clear C C2 A2 B2 D2 KBB
  have r0 := D3.out.cell (j := 0) rfl
  have r1 := D3.out.cell (j := 1) rfl
  have r2 := D3.out.cell (j := 2) rfl
  have r3 := D3.out.cell (j := 3) rfl
  have r4 := D3.out.cell (j := 4) rfl
  have r5 := D3.out.cell (j := 5) rfl
  have r6 := D3.out.cell (j := 6) rfl
  have r7 := D3.out.cell (j := 7) rfl
  have r8 := D3.out.cell (j := 8) rfl
  have r9 := D3.out.cell (j := 9) rfl
  have r10 := D3.out.cell (j := 10) rfl
  have r11 := D3.out.cell (j := 11) rfl
  go_wp2_with fail
  clear r0 r1 r2 r3 r4 r5 r6 r7 r8 r9 r10 r11
  refine (KCC.out _).mono ?_
  rintro e w6 ⟨rfl, C⟩
  have C4 : Hid (Chg [] w w6) := C3.out.trans C.out
  have A4 := Lib.hid (A3.out.chg C.out (by simp))
  have B4 := Lib.hid (B3.out.chg C.out (by simp))
  have D4 := Lib.hid (D3.out.chg C.out (by simp))
  clear C C3 A3 B3 D3 KCC
  have k0 := A4.out.cell (j := 0) rfl
  have k1 := A4.out.cell (j := 1) rfl
  have k2 := A4.out.cell (j := 2) rfl
  have k3 := A4.out.cell (j := 3) rfl
  have k4 := A4.out.cell (j := 4) rfl
  have k5 := A4.out.cell (j := 5) rfl
  have k6 := A4.out.cell (j := 6) rfl
  have k7 := A4.out.cell (j := 7) rfl
  have k8 := A4.out.cell (j := 8) rfl
  have k9 := A4.out.cell (j := 9) rfl
  have k10 := A4.out.cell (j := 10) rfl
  have k11 := A4.out.cell (j := 11) rfl
  have q0 := B4.out.cell (j := 0) rfl
  have q1 := B4.out.cell (j := 1) rfl
  have q2 := B4.out.cell (j := 2) rfl
  have q3 := B4.out.cell (j := 3) rfl
  have q4 := B4.out.cell (j := 4) rfl
  have q5 := B4.out.cell (j := 5) rfl
  have q6 := B4.out.cell (j := 6) rfl
  have q7 := B4.out.cell (j := 7) rfl
  have q8 := B4.out.cell (j := 8) rfl
  have q9 := B4.out.cell (j := 9) rfl
  have q10 := B4.out.cell (j := 10) rfl
  have q11 := B4.out.cell (j := 11) rfl
  go_wp2_with fail
  clear k0 k1 k2 k3 k4 k5 k6 k7 k8 k9 k10 k11 q0 q1 q2 q3 q4 q5 q6 q7 q8 q9 q10 q11
  refine (KBA.out _).mono ?_
  rintro e w7 ⟨rfl, C⟩
  have C5 : Hid (Chg [] w w7) := C4.out.trans C.out
  have A5 := Lib.hid (A4.out.chg C.out (by simp))
  have B5 := Lib.hid (B4.out.chg C.out (by simp))
  have D5 := Lib.hid (D4.out.chg C.out (by simp))
  clear C C4 A4 B4 D4 KBA
  have q0 := B5.out.cell (j := 0) rfl
  have q1 := B5.out.cell (j := 1) rfl
  have q2 := B5.out.cell (j := 2) rfl
  have q3 := B5.out.cell (j := 3) rfl
  have q4 := B5.out.cell (j := 4) rfl
  have q5 := B5.out.cell (j := 5) rfl
  have q6 := B5.out.cell (j := 6) rfl
  have q7 := B5.out.cell (j := 7) rfl
  have q8 := B5.out.cell (j := 8) rfl
  have q9 := B5.out.cell (j := 9) rfl
  have q10 := B5.out.cell (j := 10) rfl
  have q11 := B5.out.cell (j := 11) rfl
  have r0 := D5.out.cell (j := 0) rfl
  have r1 := D5.out.cell (j := 1) rfl
  have r2 := D5.out.cell (j := 2) rfl
  have r3 := D5.out.cell (j := 3) rfl
  have r4 := D5.out.cell (j := 4) rfl
  have r5 := D5.out.cell (j := 5) rfl
  have r6 := D5.out.cell (j := 6) rfl
  have r7 := D5.out.cell (j := 7) rfl
  have r8 := D5.out.cell (j := 8) rfl
  have r9 := D5.out.cell (j := 9) rfl
  have r10 := D5.out.cell (j := 10) rfl
  have r11 := D5.out.cell (j := 11) rfl
  go_wp2_with fail
  clear q0 q1 q2 q3 q4 q5 q6 q7 q8 q9 q10 q11 r0 r1 r2 r3 r4 r5 r6 r7 r8 r9 r10 r11
  refine (KCB.out _).mono ?_
  rintro e w8 ⟨rfl, C⟩
  have C6 : Hid (Chg [] w w8) := C5.out.trans C.out
  have A6 := Lib.hid (A5.out.chg C.out (by simp))
  have B6 := Lib.hid (B5.out.chg C.out (by simp))
  have D6 := Lib.hid (D5.out.chg C.out (by simp))
  clear C C5 A5 B5 D5 KCB
  have k0 := A6.out.cell (j := 0) rfl
  have k1 := A6.out.cell (j := 1) rfl
  have k2 := A6.out.cell (j := 2) rfl
  have k3 := A6.out.cell (j := 3) rfl
  have k4 := A6.out.cell (j := 4) rfl
  have k5 := A6.out.cell (j := 5) rfl
  have k6 := A6.out.cell (j := 6) rfl
  have k7 := A6.out.cell (j := 7) rfl
  have k8 := A6.out.cell (j := 8) rfl
  have k9 := A6.out.cell (j := 9) rfl
  have k10 := A6.out.cell (j := 10) rfl
  have k11 := A6.out.cell (j := 11) rfl
  have r0 := D6.out.cell (j := 0) rfl
  have r1 := D6.out.cell (j := 1) rfl
  have r2 := D6.out.cell (j := 2) rfl
  have r3 := D6.out.cell (j := 3) rfl
  have r4 := D6.out.cell (j := 4) rfl
  have r5 := D6.out.cell (j := 5) rfl
  have r6 := D6.out.cell (j := 6) rfl
  have r7 := D6.out.cell (j := 7) rfl
  have r8 := D6.out.cell (j := 8) rfl
  have r9 := D6.out.cell (j := 9) rfl
  have r10 := D6.out.cell (j := 10) rfl
  have r11 := D6.out.cell (j := 11) rfl
  go_wp2_with fail
  clear k0 k1 k2 k3 k4 k5 k6 k7 k8 k9 k10 k11 r0 r1 r2 r3 r4 r5 r6 r7 r8 r9 r10 r11
  refine (KCA.out _).mono ?_
  rintro e w9 ⟨rfl, C⟩
  have C7 : Hid (Chg [] w w9) := C6.out.trans C.out
  have A7 := Lib.hid (A6.out.chg C.out (by simp))
  have B7 := Lib.hid (B6.out.chg C.out (by simp))
  have D7 := Lib.hid (D6.out.chg C.out (by simp))
  clear C C6 A6 B6 D6 KCA
  go_wp2_with fail
  refine (known_any _).mono ?_
  rintro e w10 ⟨rfl, C⟩
  have CF : Hid (Chg [] w w10) := C7.out.trans C.out
  clear C C7 A7 B7 D7
  rcases HS.out with ⟨rfl, rfl, rfl⟩ | ⟨rfl, rfl, rfl⟩ | ⟨rfl, rfl, rfl⟩ | ⟨rfl, rfl, rfl⟩ | ⟨rfl, rfl, rfl⟩ | ⟨rfl, rfl, rfl⟩
  all_goals (
    go_wp2_with fail
    go_ret
    exact ⟨rfl, CF⟩)

theorem superClass_walk (a b c : Sup) (u v x : Value) (w : World) (ha : Sl w u a.st) (hb : Sl w v b.st) (hc : Sl w x c.st) : Calls Try.prog 5 #[a.val u, b.val v, c.val x] w fun e w' => e = .returned (.bool true) ∧ Chg [] w w' :=
  (superClass_core a b c u v x w ha hb hc).mono fun _ _ h => ⟨h.1, h.2.out⟩

end Go.Proofs.Ytbeejoooefgeaaa
