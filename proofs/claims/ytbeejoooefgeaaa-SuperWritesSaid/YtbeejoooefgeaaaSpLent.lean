/-
  A superblock lent, looked at, spoilt. By an AI agent. Printed by gen_splent.py.
-/
import Derived.Test.YtbeejoooefgeaaaSpSup
import Derived.Test.YtbeejoooefgeaaaSpSame
namespace Go.Proofs.Ytbeejoooefgeaaa
open Go.RowKit

/-- A superblock that has been lent: its states lie in a block of their own. -/
def LentSup (w : World) (s : Sup) (e : Ending) (w' : World) : Prop :=
  ∃ g, e = .returned (s.val (.slice (some ⟨g, 0, none⟩) s.st.length (s.st.length + 2))) ∧ Hid (Blk w' g 61 ((s.st ++ [71, 72]).map (Value.int .u8))) ∧ Hid (Chg [] w w') ∧ w.heap.size ≤ g

set_option maxHeartbeats 4000000 in
set_option maxRecDepth 100000 in
theorem lent_super (s : Sup) (u : Value) (w : World) (hu : Sl w u s.st) (hg : s.st.length ≤ 140737488355328) :
    Calls Try.prog 6 #[s.val u] w (LentSup w s) := by
  have LL := Lib.hid (fun W (c : Chg [] w W) => lents_any u s.st W (hu.chg c (by simp)) hg)
  obtain ⟨ao, cp, rfl⟩ := hu.slice
  clear hu
  unfold LentSup
  unfold Sup.val
  obtain ⟨i0, hi, hz0, hz1, hz2⟩ := info_parts info_super2
  replace hi := Lib.hid hi
  replace hz0 := Lib.hid hz0
  clear hz1 hz2
  go_enter Try.func6, Try.ntmps6
  go_upto_region 1 with (with_reducible refine wpList_alloc_arr rfl 27 rfl i0 _ hi.out hz0.out ?_)
  refine wp_named (fun W hW => ?_)
  obtain ⟨S1, R1, C1⟩ := two_blocks w [.int .u64 (s.id : Int), .int .u64 (s.ev : Int), .int .u64 (s.safe : Int), .int .i64 s.role, .int .i64 s.m, .int .i64 s.c, .int .i64 s.t, .int .i64 s.ring, .bool s.lazy, .bool s.lost, .slice ao s.st.length cp, .int .i64 s.cur] zero12 27 27 hW
  clear hW
  replace S1 := Lib.hid S1
  replace R1 := Lib.hid R1
  replace C1 := Lib.hid C1
  have k10 := S1.out.cell (j := 10) rfl
  go_wp2_with fail
  refine (LL.out W C1.out).mono ?_
  rintro e w2 ⟨g, rfl, B, C, hgW⟩
  clear LL k10
  have hWw : w.heap.size + 1 < W.heap.size := R1.out.lt
  have C2 : Hid (Chg [] w w2) := C1.out.trans C
  have S2 := Lib.hid (S1.out.chg C (by simp))
  have R2 := Lib.hid (R1.out.chg C (by simp))
  have k10 := S2.out.cell (j := 10) rfl
  have z10 := S2.out.free 10
  have hne : ¬ w.heap.size = w.heap.size + 1 := by omega
  have hng : ¬ w.heap.size = g := by omega
  have C3 : Hid (Chg [] w (w2.setCell ⟨w.heap.size, 10, none⟩ (.slice (some ⟨g, 0, none⟩) s.st.length (s.st.length + 2)))) := C2.out.setCell (.inr (Nat.le_refl _)) _
  have R3 : Hid (Blk (w2.setCell ⟨w.heap.size, 10, none⟩ (.slice (some ⟨g, 0, none⟩) s.st.length (s.st.length + 2))) (w.heap.size + 1) 27 zero12) := R2.out.other hne _
  have G3 : Hid (Blk (w2.setCell ⟨w.heap.size, 10, none⟩ (.slice (some ⟨g, 0, none⟩) s.st.length (s.st.length + 2))) g 61 ((s.st ++ [71, 72]).map (Value.int .u8))) := B.other hng _
  have RG : Hid ((w2.setCell ⟨w.heap.size, 10, none⟩ (.slice (some ⟨g, 0, none⟩) s.st.length (s.st.length + 2))).rangeAt w.heap.size 0 [.int .u64 (s.id : Int), .int .u64 (s.ev : Int), .int .u64 (s.safe : Int), .int .i64 s.role, .int .i64 s.m, .int .i64 s.c, .int .i64 s.t, .int .i64 s.ring, .bool s.lazy, .bool s.lost, .slice (some ⟨g, 0, none⟩) s.st.length (s.st.length + 2), .int .i64 s.cur]) := (S2.out.set 10 _).rangeAll
  have ON : Hid (∀ v ∈ ([.int .u64 (s.id : Int), .int .u64 (s.ev : Int), .int .u64 (s.safe : Int), .int .i64 s.role, .int .i64 s.m, .int .i64 s.c, .int .i64 s.t, .int .i64 s.ring, .bool s.lazy, .bool s.lost, .slice (some ⟨g, 0, none⟩) s.st.length (s.st.length + 2), .int .i64 s.cur] : List Value), v.oneCell' = true) := one12u s _ _
  have LE : Hid (0 + ([.int .u64 (s.id : Int), .int .u64 (s.ev : Int), .int .u64 (s.safe : Int), .int .i64 s.role, .int .i64 s.m, .int .i64 s.c, .int .i64 s.t, .int .i64 s.ring, .bool s.lazy, .bool s.lost, .slice (some ⟨g, 0, none⟩) s.st.length (s.st.length + 2), .int .i64 s.cur] : List Value).length ≤ zero12.length) := Nat.le_refl 12
  have SC : Hid ((Try.prog.info? 27).map (·.size) = some ([.int .u64 (s.id : Int), .int .u64 (s.ev : Int), .int .u64 (s.safe : Int), .int .i64 s.role, .int .i64 s.m, .int .i64 s.c, .int .i64 s.t, .int .i64 s.ring, .bool s.lazy, .bool s.lost, .slice (some ⟨g, 0, none⟩) s.st.length (s.st.length + 2), .int .i64 s.cur] : List Value).length) := size_super
  clear B C S1 R1 C1 R2 C2
  go_wp2_with (first
    | (with_reducible refine wpList_load_mid rfl 27 (.tmp 1) rfl w.heap.size 0 rfl [.int .u64 (s.id : Int), .int .u64 (s.ev : Int), .int .u64 (s.safe : Int), .int .i64 s.role, .int .i64 s.m, .int .i64 s.c, .int .i64 s.t, .int .i64 s.ring, .bool s.lazy, .bool s.lost, .slice (some ⟨g, 0, none⟩) s.st.length (s.st.length + 2), .int .i64 s.cur] _ RG.out Try.underlying27 rfl SC.out ?_)
    | ((with_reducible refine wpList_store_blk rfl 27 (.tmp 2) (.tmp 7) rfl (w.heap.size + 1) 0 27 zero12 [.int .u64 (s.id : Int), .int .u64 (s.ev : Int), .int .u64 (s.safe : Int), .int .i64 s.role, .int .i64 s.m, .int .i64 s.c, .int .i64 s.t, .int .i64 s.ring, .bool s.lazy, .bool s.lost, .slice (some ⟨g, 0, none⟩) s.st.length (s.st.length + 2), .int .i64 s.cur] rfl rfl R3.out LE.out SC.out ON.out ?_); intro w6 B9 C9))
  have B10 : Hid (Blk w6 (w.heap.size + 1) 27 [.int .u64 (s.id : Int), .int .u64 (s.ev : Int), .int .u64 (s.safe : Int), .int .i64 s.role, .int .i64 s.m, .int .i64 s.c, .int .i64 s.t, .int .i64 s.ring, .bool s.lazy, .bool s.lost, .slice (some ⟨g, 0, none⟩) s.st.length (s.st.length + 2), .int .i64 s.cur]) := by
    have e : lay zero12 0 ([.int .u64 (s.id : Int), .int .u64 (s.ev : Int), .int .u64 (s.safe : Int), .int .i64 s.role, .int .i64 s.m, .int .i64 s.c, .int .i64 s.t, .int .i64 s.ring, .bool s.lazy, .bool s.lost, .slice (some ⟨g, 0, none⟩) s.st.length (s.st.length + 2), .int .i64 s.cur] : List Value) = [.int .u64 (s.id : Int), .int .u64 (s.ev : Int), .int .u64 (s.safe : Int), .int .i64 s.role, .int .i64 s.m, .int .i64 s.c, .int .i64 s.t, .int .i64 s.ring, .bool s.lazy, .bool s.lost, .slice (some ⟨g, 0, none⟩) s.st.length (s.st.length + 2), .int .i64 s.cur] := lay_all _ _ rfl
    show Blk _ _ _ _
    rw [← e]
    exact B9.out
  refine bodyPost_ret (results_cell_row rfl _ _ (w.heap.size + 1) _ _ _ _ rfl B10.out Try.underlying27 rfl ?_) rfl ?_
  · exact SC.out
  · refine ⟨g, rfl, G3.out.chg C9.out (fun hm => by have h1 := List.mem_singleton.1 hm; omega), C3.out.fresh C9.out (fun j hj => .inr (by rw [List.mem_singleton.1 hj]; omega)), by omega⟩

set_option maxHeartbeats 4000000 in
set_option maxRecDepth 100000 in
theorem whole_super (s : Sup) (g : Nat) (u : Value) (w : World) (hb : Blk w g 61 ((s.st ++ [71, 72]).map (Value.int .u8))) (hu : Sl w u s.st) (hg : s.st.length ≤ 140737488355328) :
    Calls Try.prog 9 #[s.val (.slice (some ⟨g, 0, none⟩) s.st.length (s.st.length + 2)), s.val u] w fun e w' => e = .returned (.bool true) ∧ Hid (Chg [] w w') := by
  have SS := Lib.hid (fun W (c : Chg [] w W) => same_super s (.slice (some ⟨g, 0, none⟩) s.st.length (s.st.length + 2)) u W ((Blk.sls hb : Sl w (.slice (some ⟨g, 0, none⟩) s.st.length (s.st.length + 2)) s.st).chg c (by simp)) (hu.chg c (by simp)) hg)
  have WS := Lib.hid (fun W (c : Chg [] w W) => wholes_any g u s.st W (hb.chg c (by simp)) (hu.chg c (by simp)) hg)
  obtain ⟨ao, cp, rfl⟩ := hu.slice
  clear hu hb
  unfold Sup.val at *
  go_enter Try.func9, Try.ntmps9
  go_upto_region 1 with fail
  refine wp_named (fun W hW => ?_)
  obtain ⟨S1, R1, C1⟩ := two_blocks w [.int .u64 (s.id : Int), .int .u64 (s.ev : Int), .int .u64 (s.safe : Int), .int .i64 s.role, .int .i64 s.m, .int .i64 s.c, .int .i64 s.t, .int .i64 s.ring, .bool s.lazy, .bool s.lost, .slice (some ⟨g, 0, none⟩) s.st.length (s.st.length + 2), .int .i64 s.cur] [.int .u64 (s.id : Int), .int .u64 (s.ev : Int), .int .u64 (s.safe : Int), .int .i64 s.role, .int .i64 s.m, .int .i64 s.c, .int .i64 s.t, .int .i64 s.ring, .bool s.lazy, .bool s.lost, .slice ao s.st.length cp, .int .i64 s.cur] 27 27 hW
  clear hW
  replace S1 := Lib.hid S1
  replace R1 := Lib.hid R1
  replace C1 := Lib.hid C1
  have k0 := S1.out.cell (j := 0) rfl
  have k1 := S1.out.cell (j := 1) rfl
  have k2 := S1.out.cell (j := 2) rfl
  have k3 := S1.out.cell (j := 3) rfl
  have k4 := S1.out.cell (j := 4) rfl
  have k5 := S1.out.cell (j := 5) rfl
  have k6 := S1.out.cell (j := 6) rfl
  have k7 := S1.out.cell (j := 7) rfl
  have k8 := S1.out.cell (j := 8) rfl
  have k9 := S1.out.cell (j := 9) rfl
  have k10 := S1.out.cell (j := 10) rfl
  have k11 := S1.out.cell (j := 11) rfl
  have q0 := R1.out.cell (j := 0) rfl
  have q1 := R1.out.cell (j := 1) rfl
  have q2 := R1.out.cell (j := 2) rfl
  have q3 := R1.out.cell (j := 3) rfl
  have q4 := R1.out.cell (j := 4) rfl
  have q5 := R1.out.cell (j := 5) rfl
  have q6 := R1.out.cell (j := 6) rfl
  have q7 := R1.out.cell (j := 7) rfl
  have q8 := R1.out.cell (j := 8) rfl
  have q9 := R1.out.cell (j := 9) rfl
  have q10 := R1.out.cell (j := 10) rfl
  have q11 := R1.out.cell (j := 11) rfl
  go_wp2_with fail
  refine (SS.out W C1.out).mono ?_
  rintro e w2 ⟨rfl, C⟩
  have C2 : Hid (Chg [] w w2) := C1.out.trans C.out
  have k10 := (S1.out.chg C.out (by simp)).cell (j := 10) rfl
  have q10 := (R1.out.chg C.out (by simp)).cell (j := 10) rfl
  clear C S1 R1 SS
  go_wp2_with fail
  refine (WS.out w2 C2.out).mono ?_
  rintro e w3 ⟨rfl, q, rfl⟩
  go_wp2_with fail
  go_ret
  exact ⟨by first | rfl | simp, C2.out.drewN q⟩

set_option maxHeartbeats 4000000 in
set_option maxRecDepth 100000 in
theorem spoil_super (s : Sup) (g : Nat) (w : World) (hb : Blk w g 61 ((s.st ++ [71, 72]).map (Value.int .u8))) (hg : s.st.length ≤ 140737488355328) :
    Calls Try.prog 10 #[s.val (.slice (some ⟨g, 0, none⟩) s.st.length (s.st.length + 2))] w fun e w' => e = .returned (.tuple #[]) ∧ Hid (Chg [g] w w') := by
  have SP := Lib.hid (fun W (c : Chg [] w W) => spoils_any g s.st.length (s.st ++ [71, 72]) W (hb.chg c (by simp)) (by simp) hg)
  have hgl := hb.lt
  clear hb
  unfold Sup.val
  go_enter Try.func10, Try.ntmps10
  have C1 : Hid (Chg [] w (w.alloc (.cells #[.int .u64 (s.id : Int), .int .u64 (s.ev : Int), .int .u64 (s.safe : Int), .int .i64 s.role, .int .i64 s.m, .int .i64 s.c, .int .i64 s.t, .int .i64 s.ring, .bool s.lazy, .bool s.lost, .slice (some ⟨g, 0, none⟩) s.st.length (s.st.length + 2), .int .i64 s.cur] 27))) := (Chg.refl _ w).alloc _
  have k10 := (Blk.made w [.int .u64 (s.id : Int), .int .u64 (s.ev : Int), .int .u64 (s.safe : Int), .int .i64 s.role, .int .i64 s.m, .int .i64 s.c, .int .i64 s.t, .int .i64 s.ring, .bool s.lazy, .bool s.lost, .slice (some ⟨g, 0, none⟩) s.st.length (s.st.length + 2), .int .i64 s.cur] 27).cell (j := 10) rfl
  go_wp2_with fail
  refine (SP.out _ C1.out).mono ?_
  rintro e w2 ⟨rfl, C⟩
  have C2 : Hid (Chg [g] w w2) := (C1.out.mono (by simp)).trans C
  go_wp2_with fail
  go_end0
  exact ⟨rfl, C2⟩

end Go.Proofs.Ytbeejoooefgeaaa
