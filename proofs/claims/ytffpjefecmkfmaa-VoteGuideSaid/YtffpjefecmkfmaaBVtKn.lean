/-
  known. By an AI agent.
-/
import Derived.Test.YtffpjefecmkfmaaBVtBal
namespace Go.Proofs.Ytffpjefecmkfmaa
open Go.RowKit

theorem bals4 {ev : Nat} {ds : List BalD} (hl : ds.length = 4) (h : ∀ k d, ds[k]? = some d → d.has = true ∧ d.s = baseS ev k) : ∃ u0 u1 u2 u3, ds = [⟨true, baseS ev 0, u0⟩, ⟨true, baseS ev 1, u1⟩, ⟨true, baseS ev 2, u2⟩, ⟨true, baseS ev 3, u3⟩] := by
  match ds, hl with
  | [⟨h0, s0, u0⟩, ⟨h1, s1, u1⟩, ⟨h2, s2, u2⟩, ⟨h3, s3, u3⟩], _ =>
    obtain ⟨rfl, rfl⟩ : h0 = true ∧ s0 = baseS ev 0 := h 0 _ rfl
    obtain ⟨rfl, rfl⟩ : h1 = true ∧ s1 = baseS ev 1 := h 1 _ rfl
    obtain ⟨rfl, rfl⟩ : h2 = true ∧ s2 = baseS ev 2 := h 2 _ rfl
    obtain ⟨rfl, rfl⟩ : h3 = true ∧ s3 = baseS ev 3 := h 3 _ rfl
    exact ⟨u0, u1, u2, u3, rfl⟩

def kn (h1 h3 : Bool) (u0 u1 u2 u3 : Value) : List BalD := [⟨true, baseS 5 0, u0⟩, ⟨h1, baseS 5 1, u1⟩, ⟨true, baseS 5 2, u2⟩, ⟨h3, baseS 5 3, u3⟩]

theorem kn1 (u0 u1 u2 u3 : Value) : Vt.err (kn true true u0 u1 u2 u3) = 0 ∧ Vt.out (kn true true u0 u1 u2 u3) = ⟨1, 5, 1, 0, 3, 1, 2, 10, false, false, [1, 1, 1], 0⟩ ∧ Vt.ch (kn true true u0 u1 u2 u3) = false ∧ Vt.jn (kn true true u0 u1 u2 u3) = true := ⟨by kernel_rfl, by kernel_rfl, by kernel_rfl, by kernel_rfl⟩

theorem kn2 (u0 u1 u2 u3 : Value) : Vt.err (kn false true u0 u1 u2 u3) = 0 ∧ Vt.out (kn false true u0 u1 u2 u3) = ⟨1, 5, 1, 0, 3, 1, 2, 10, false, false, [1, 2, 1], 0⟩ ∧ Vt.ch (kn false true u0 u1 u2 u3) = true ∧ Vt.jn (kn false true u0 u1 u2 u3) = true := ⟨by kernel_rfl, by kernel_rfl, by kernel_rfl, by kernel_rfl⟩

theorem kn3 (u0 u1 u2 u3 : Value) : Vt.err (kn false false u0 u1 u2 u3) = 153 ∧ Vt.out (kn false false u0 u1 u2 u3) = Sup.nil ∧ Vt.ch (kn false false u0 u1 u2 u3) = false ∧ Vt.jn (kn false false u0 u1 u2 u3) = false := ⟨by kernel_rfl, by kernel_rfl, by kernel_rfl, by kernel_rfl⟩

/-- It is told, in memory of its own. -/
def ChoseV (s : Sup) (c j : Bool) (er : Nat) (w : World) (e : Ending) (w' : World) : Prop :=
  ∃ u, e = .returned (.tuple #[verdV s u c j, .int .u16 (er : Int)]) ∧ Hid (w'.ownsRow w.heap.size 37 1 u s.st.length (s.st.map (Value.int .u8))) ∧ Hid (Chg [] w w')

theorem chose_is {ds : List BalD} {s : Sup} {c j : Bool} {er : Nat} {lv : Value} {w : World} (h : Bals w lv ds) (k : Vt.err ds = er ∧ Vt.out ds = s ∧ Vt.ch ds = c ∧ Vt.jn ds = j) : Calls Try.prog 9 #[lv] w (ChoseV s c j er w) := by
  obtain ⟨rfl, rfl, rfl, rfl⟩ := k
  exact (choose_any ds lv w h).mono (fun e w' h => h)

set_option maxHeartbeats 8000000 in
set_option maxRecDepth 100000 in
theorem known_any (w : World) : Calls Try.prog 10 #[] w fun e w' => e = .returned (.bool true) ∧ Hid (Chg [] w w') := by
  have BA := Lib.hid (ballots_any 5 (by decide) w)
  go_enter Try.func10, Try.ntmps10
  go_wp2_with fail
  refine BA.out.mono ?_
  rintro e w1 ⟨v, ds, rfl, R, hl, BS⟩
  clear BA
  obtain ⟨u0, u1, u2, u3, rfl⟩ := bals4 hl BS.out
  clear BS
  obtain ⟨G, c, rfl, hc, hG0, hG1⟩ := R.out.head (by show 0 < 4; decide)
  replace R : Hid (BRow w w1 (.slice (some ⟨G, 0, none⟩) 4 c) (kn true true u0 u1 u2 u3)) := R
  have HG := Lib.hid hG0
  have C1 : Hid (Chg [] w w1) := R.out.ch
  have c1 := Lib.hid (chose_is (R.out.bals (by show 4 ≤ 140737488355328; decide)) (kn1 u0 u1 u2 u3))
  have HW1 := Lib.hid hG1
  clear hl hG0 hG1
  have hc4 : (4 : Int) ≤ c := by have : 4 ≤ c := hc; omega
  clear hc
  go_wp2_with fail
  refine c1.out.mono ?_
  rintro e w2 ⟨q1, rfl, O1, C2⟩
  obtain ⟨x1, y1, rfl⟩ := owns_slice O1.out
  replace R := Lib.hid (R.out.chg C2.out)
  unfold verdV verdCells
  have HW : Hid (G < w2.heap.size) := Nat.lt_of_lt_of_le HW1.out C2.out.size
  clear c1 O1 HW1
  have C2' : Hid (Chg [] w w2) := C1.out.trans C2.out
  obtain ⟨w3, hw3⟩ : ∃ w3, w3 = w2.alloc (.cells #[.int .u64 1, .int .u64 5, .int .u64 1, .int .i64 0, .int .i64 3, .int .i64 1, .int .i64 2, .int .i64 10, .bool false, .bool false, .slice x1 3 y1, .int .i64 0, .bool false, .bool true] 31) := ⟨_, rfl⟩
  have V3 : Hid (Blk w3 w2.heap.size 31 [.int .u64 1, .int .u64 5, .int .u64 1, .int .i64 0, .int .i64 3, .int .i64 1, .int .i64 2, .int .i64 10, .bool false, .bool false, .slice x1 3 y1, .int .i64 0, .bool false, .bool true]) := by show Blk _ _ _ _; rw [hw3]; exact Blk.made w2 _ _
  have C23 : Hid (Chg [] w2 w3) := by show Chg _ _ _; rw [hw3]; exact (Chg.refl _ _).alloc _
  replace R := Lib.hid (R.out.chg C23.out)
  replace hw3 := Lib.hid hw3
  clear C1 C2
  go_upto_region 3 with fail
  rw [← hw3.out]
  have SET1 := R.out.set (i := 1) (j := 0) (d' := ⟨false, baseS 5 1, u1⟩) (u := .bool false) rfl (by decide) rfl (R.out.st ⟨true, baseS 5 1, u1⟩ (by simp [kn]))
  have R1 : Hid (BRow w (w3.setCell ⟨G, 13, none⟩ (.bool false)) (.slice (some ⟨G, 0, none⟩) 4 c) (kn false true u0 u1 u2 u3)) := SET1.1
  have f13 : w3.frozen? ⟨G, 13, none⟩ = false := SET1.2
  have k13 : w3.cell? ⟨G, 13, none⟩ = some (.bool true) := R.out.cell (i := 1) (j := 0) (d := ⟨true, baseS 5 1, u1⟩) rfl (by decide) rfl
  have NA : Hid (w2.heap.size ≠ G) := by
    have := HW.out
    show _ ≠ _
    omega
  have VA : Hid (Blk (w3.setCell ⟨G, 13, none⟩ (.bool false)) w2.heap.size 31 [.int .u64 1, .int .u64 5, .int .u64 1, .int .i64 0, .int .i64 3, .int .i64 1, .int .i64 2, .int .i64 10, .bool false, .bool false, .slice x1 3 y1, .int .i64 0, .bool false, .bool true]) := Blk.other V3.out (Ne.symm NA.out) _
  go_upto_region 4 with fail
  clear f13 k13 V3 SET1 R C23 hw3
  generalize w3.setCell ⟨G, 13, none⟩ (.bool false) = w4 at *
  clear w3
  generalize w2.heap.size = gA at *
  clear C2'
  clear w2
  have c2 := Lib.hid (chose_is (R1.out.bals (by show 4 ≤ 140737488355328; decide)) (kn2 u0 u1 u2 u3))
  have HW4 : Hid (G < w4.heap.size) := (R1.out.row.lt G rfl).2
  have HA4 : Hid (gA < w4.heap.size) := VA.out.lt
  go_wp2_with fail
  refine c2.out.mono ?_
  rintro e w5 ⟨q2, rfl, O2, C5⟩
  obtain ⟨x2, y2, rfl⟩ := owns_slice O2.out
  obtain ⟨g2, rfl⟩ := owns_head O2.out (by decide)
  have HG2 : Hid (w4.heap.size ≤ g2) := (O2.out.lt g2 rfl).1
  have HG2b : Hid (g2 < w5.heap.size) := (O2.out.lt g2 rfl).2
  have R5 := Lib.hid (R1.out.chg C5.out)
  have VA5 := Lib.hid (VA.out.chg C5.out (by simp))
  have HW5 : Hid (w4.heap.size ≤ w5.heap.size) := C5.out.size
  unfold verdV verdCells
  clear c2 R1 VA C5
  obtain ⟨w6, hw6⟩ : ∃ w6, w6 = w5.alloc (.cells #[.int .u64 1, .int .u64 5, .int .u64 1, .int .i64 0, .int .i64 3, .int .i64 1, .int .i64 2, .int .i64 10, .bool false, .bool false, .slice (some ⟨g2, 0, none⟩) 3 y2, .int .i64 0, .bool true, .bool true] 31) := ⟨_, rfl⟩
  have V6 : Hid (Blk w6 w5.heap.size 31 [.int .u64 1, .int .u64 5, .int .u64 1, .int .i64 0, .int .i64 3, .int .i64 1, .int .i64 2, .int .i64 10, .bool false, .bool false, .slice (some ⟨g2, 0, none⟩) 3 y2, .int .i64 0, .bool true, .bool true]) := by show Blk _ _ _ _; rw [hw6]; exact Blk.made w5 _ _
  have C56 : Hid (Chg [] w5 w6) := by show Chg _ _ _; rw [hw6]; exact (Chg.refl _ _).alloc _
  have R6 := Lib.hid (R5.out.chg C56.out)
  have VA6 := Lib.hid (VA5.out.chg C56.out (by simp))
  have O6 := Lib.hid (owns_chg O2.out C56.out (by simp))
  replace hw6 := Lib.hid hw6
  clear O2 R5 VA5
  go_upto_region 5 with fail
  rw [← hw6.out]
  have SET3 := R6.out.set (i := 3) (j := 0) (d' := ⟨false, baseS 5 3, u3⟩) (u := .bool false) rfl (by decide) rfl (R6.out.st ⟨true, baseS 5 3, u3⟩ (by simp [kn]))
  have R7 : Hid (BRow w (w6.setCell ⟨G, 39, none⟩ (.bool false)) (.slice (some ⟨G, 0, none⟩) 4 c) (kn false false u0 u1 u2 u3)) := SET3.1
  have f39 : w6.frozen? ⟨G, 39, none⟩ = false := SET3.2
  have k39 : w6.cell? ⟨G, 39, none⟩ = some (.bool true) := R6.out.cell (i := 3) (j := 0) (d := ⟨true, baseS 5 3, u3⟩) rfl (by decide) rfl
  have VA7 : Hid (Blk (w6.setCell ⟨G, 39, none⟩ (.bool false)) gA 31 [.int .u64 1, .int .u64 5, .int .u64 1, .int .i64 0, .int .i64 3, .int .i64 1, .int .i64 2, .int .i64 10, .bool false, .bool false, .slice x1 3 y1, .int .i64 0, .bool false, .bool true]) := Blk.other VA6.out (Ne.symm NA.out) _
  have V7 : Hid (Blk (w6.setCell ⟨G, 39, none⟩ (.bool false)) w5.heap.size 31 [.int .u64 1, .int .u64 5, .int .u64 1, .int .i64 0, .int .i64 3, .int .i64 1, .int .i64 2, .int .i64 10, .bool false, .bool false, .slice (some ⟨g2, 0, none⟩) 3 y2, .int .i64 0, .bool true, .bool true]) := Blk.other V6.out (by show G ≠ w5.heap.size; have := HW4.out; have := HW5.out; omega) _
  have O7 := Lib.hid (owns_chg O6.out (show Chg [G] w6 (w6.setCell ⟨G, 39, none⟩ (.bool false)) from (Chg.refl _ _).setCell (.inl (by simp)) _) (by intro b hb; simp [Value.ownBlock] at hb; subst hb; simp; have := HW4.out; have := HG2.out; omega))
  go_upto_region 6 with fail
  clear f39 k39 V6 SET3 R6 C56 hw6 VA6 O6 HW4 HA4 HG2 HG2b HW5 NA HW HG
  generalize w6.setCell ⟨G, 39, none⟩ (.bool false) = w7 at *
  clear w6
  generalize w5.heap.size = gB at *
  have c3 := Lib.hid (chose_is (R7.out.bals (by show 4 ≤ 140737488355328; decide)) (kn3 u0 u1 u2 u3))
  have C7 : Hid (Chg [] w w7) := R7.out.ch
  go_wp2_with fail
  refine c3.out.mono ?_
  rintro e w8 ⟨q3, rfl, O3, C8⟩
  obtain ⟨x3, y3, rfl⟩ := owns_slice O3.out
  have VA8 := Lib.hid (VA7.out.chg C8.out (by simp))
  have V8 := Lib.hid (V7.out.chg C8.out (by simp))
  have O8 := Lib.hid (owns_chg O7.out C8.out (by simp))
  have C8' := Lib.hid (C7.out.trans C8.out)
  unfold verdV verdCells Sup.nil
  clear c3 R7 VA7 V7 O7 C8 O3 C7
  obtain ⟨w9, hw9⟩ : ∃ w9, w9 = w8.alloc (.cells #[.int .u64 0, .int .u64 0, .int .u64 0, .int .i64 0, .int .i64 0, .int .i64 0, .int .i64 0, .int .i64 0, .bool false, .bool false, .slice x3 0 y3, .int .i64 0, .bool false, .bool false] 31) := ⟨_, rfl⟩
  have C89 : Hid (Chg [] w8 w9) := by show Chg _ _ _; rw [hw9]; exact (Chg.refl _ _).alloc _
  have VA9 := Lib.hid (VA8.out.chg C89.out (by simp))
  have V9 := Lib.hid (V8.out.chg C89.out (by simp))
  have O9 := Lib.hid (owns_chg O8.out C89.out (by simp))
  have C9 := Lib.hid (C8'.out.trans C89.out)
  replace hw9 := Lib.hid hw9
  clear VA8 V8 O8 C8' C89
  go_upto_region 7 with fail
  rw [← hw9.out]
  clear hw9
  have a1 := VA9.out.cell (j := 1) rfl
  have a10 := VA9.out.cell (j := 10) rfl
  have a12 := VA9.out.cell (j := 12) rfl
  have a13 := VA9.out.cell (j := 13) rfl
  have b10 := V9.out.cell (j := 10) rfl
  have b12 := V9.out.cell (j := 12) rfl
  have b13 := V9.out.cell (j := 13) rfl
  have s0 := ownsRow_cellAt O9.out (j := 0) rfl
  have s1 := ownsRow_cellAt O9.out (j := 1) rfl
  clear VA9 V9 O9
  go_wp2_with fail
  go_ret
  exact ⟨rfl, C9⟩

end Go.Proofs.Ytffpjefecmkfmaa
