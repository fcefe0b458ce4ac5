/-
  A content's superblock. By an AI agent.
-/
import Derived.Test.YtbeejoooefgeaaaSpCon
import Derived.Test.YtbeejoooefgeaaaGLentStates
import Derived.Laws.AppendOwn
namespace Go.Proofs.Ytbeejoooefgeaaa
open Go.RowKit

set_option maxHeartbeats 1000000 in
set_option maxRecDepth 100000 in
theorem clone_states (b off n c : Nat) (zs : List Int) (w : World) (hz : n = zs.length) (hbig : n ≤ 140737488355328) (hc : ∀ j, j < zs.length → w.cell? ⟨b, off + j, none⟩ = some (.int .u8 (zs.getD j 0))) :
    Calls Try.prog 77 #[.slice (some ⟨b, off, none⟩) n c] w fun e w' => ∃ v', e = .returned v' ∧ w'.ownsRow w.heap.size 61 1 v' n (zs.map (Value.int .u8)) ∧ Chg [] w w' := by
  obtain ⟨i0, hi, hz0, hz1, hz2⟩ := info_parts info_state
  have q22 : ∀ (w : World) (a : Option Addr) (n c n' c' : Nat), (binOp .eql 25 (.slice a n c) (.slice none n' c')).run Try.prog w = .ok (.bool a.isNone) w := fun w a n c n' c' => Lib.run_eql_slice_nil w _ _ a n c n' c' Try.underlying25
  have A := Lib.hid hc
  clear hc
  go_enter Try.func77, Try.ntmps77
  go_wp2_with (at_builtin; refine wpList_append_own _ rfl _ _ 25 rfl w.heap.size 61 i0 (.int .u8 0) 1 1 Try.underlying25 hi hz0 hz1 hz2 rfl (by decide) _ _ _ rfl (World.ownsRow_made w #[] 0 (Nat.le_refl _) (Nat.zero_le _) rfl) ⟨b, off, none⟩ n c (zs.map (Value.int .u8)) rfl ?qc1 ?qc2 ?qc3 ?qc4 ?qc5 ?qc6 ?_)
  case qc1 => simp; omega
  case qc2 =>
    intro j u hj
    have hjn : j < zs.length := by
      have := (List.getElem?_eq_some_iff.1 hj).1
      simpa using this
    rw [Addr.add_lit]
    refine Lib.cell?_alloc_some _ ?_
    rw [A.out j hjn]
    have e : (zs.map (Value.int .u8))[j]? = some (Value.int .u8 (zs.getD j 0)) := by simp [List.getD, List.getElem?_eq_getElem hjn]
    rw [e] at hj
    exact hj
  case qc3 => intro u hu; obtain ⟨x, _, rfl⟩ := List.mem_map.1 hu; rfl
  case qc4 => unfold maxLen; omega
  case qc5 => omega
  case qc6 => simp
  intro v' w1 hown hgrow hnil
  go_wp2
  go_ret
  refine ⟨v', rfl, by subst hz; simpa using hown, ?_⟩
  exact ((Chg.refl _ w).alloc _).grown hgrow (by intro k hk; simp [Value.ownBlock] at hk; omega)

/-- What a content has that was read. -/
def Sup.raw (s : Sup) : Sup := { s with lazy := false, lost := false }

theorem one12 (s : Sup) : ∀ v ∈ ([.int .u64 (s.id : Int), .int .u64 (s.ev : Int), .int .u64 (s.safe : Int), .int .i64 s.role, .int .i64 s.m, .int .i64 s.c, .int .i64 s.t, .int .i64 s.ring, .bool false, .bool false, .slice none 0 0, .int .i64 s.cur] : List Value), v.oneCell' = true := by
  intro v hv
  simp only [List.mem_cons, List.not_mem_nil, or_false] at hv
  rcases hv with rfl | rfl | rfl | rfl | rfl | rfl | rfl | rfl | rfl | rfl | rfl | rfl <;> rfl

theorem info_super : (Try.prog.info? 27).map (fun i => (i.zero, i.size, i.bytes)) = some (some (.agg (#[.int .u64 0, .int .u64 0, .int .u64 0, .int .i64 0, .int .i64 0, .int .i64 0, .int .i64 0, .int .i64 0, .bool false, .bool false, .slice none 0 0, .int .i64 0] : Array Value)), 12, 104) := by kernel_rfl

def zero12 : List Value := [.int .u64 0, .int .u64 0, .int .u64 0, .int .i64 0, .int .i64 0, .int .i64 0, .int .i64 0, .int .i64 0, .bool false, .bool false, .slice none 0 0, .int .i64 0]

theorem info_super2 : (Try.prog.info? 27).map (fun i => (i.zero, i.size, i.bytes)) = some (some (.agg zero12.toArray), 12, 104) := info_super

theorem conts_state (s : Sup) (u : Value) (fl sm : Int) {j : Nat} (hj : j < s.st.length) : (s.conts u fl (pad16 s.st) sm)[14 + j]? = some (.int .u8 (s.st.getD j 0)) := by
  unfold Sup.conts pad16
  rw [List.append_assoc, List.getElem?_append_right (by simp), List.append_assoc, List.getElem?_append_left (by simp; omega)]
  simp [List.getD, List.getElem?_eq_getElem hj]

theorem one12u (s : Sup) (uo : Option Addr) (uc : Nat) : ∀ v ∈ ([.int .u64 (s.id : Int), .int .u64 (s.ev : Int), .int .u64 (s.safe : Int), .int .i64 s.role, .int .i64 s.m, .int .i64 s.c, .int .i64 s.t, .int .i64 s.ring, .bool s.lazy, .bool s.lost, .slice uo s.st.length uc, .int .i64 s.cur] : List Value), v.oneCell' = true := by
  intro v hv
  simp only [List.mem_cons, List.not_mem_nil, or_false] at hv
  rcases hv with rfl | rfl | rfl | rfl | rfl | rfl | rfl | rfl | rfl | rfl | rfl | rfl <;> rfl

set_option maxHeartbeats 8000000 in
set_option maxRecDepth 100000 in
theorem super_any (s : Sup) (sm : Int) (w : World) (hl : s.st.length ≤ 16) (h3 : 0 < s.st.length) (hm : (s.st.length : Int) = s.m) :
    Calls Try.prog 53 #[.agg (s.raw.conts (.slice none 0 0) s.flags (pad16 s.st) sm).toArray] w fun e w' => ∃ u, e = .returned (s.val u) ∧ Hid (w'.ownsRow w.heap.size 61 1 u s.st.length (s.st.map (Value.int .u8))) ∧ Hid (Chg [] w w') := by
  obtain ⟨i0, hi, hz0, hz1, hz2⟩ := info_parts info_super2
  replace hi := Lib.hid hi
  replace hz0 := Lib.hid hz0
  clear hz1 hz2
  have ON : Hid (∀ v ∈ ([.int .u64 (s.id : Int), .int .u64 (s.ev : Int), .int .u64 (s.safe : Int), .int .i64 s.role, .int .i64 s.m, .int .i64 s.c, .int .i64 s.t, .int .i64 s.ring, .bool false, .bool false, .slice none 0 0, .int .i64 s.cur] : List Value), v.oneCell' = true) := one12 s
  have LE : Hid (0 + ([.int .u64 (s.id : Int), .int .u64 (s.ev : Int), .int .u64 (s.safe : Int), .int .i64 s.role, .int .i64 s.m, .int .i64 s.c, .int .i64 s.t, .int .i64 s.ring, .bool false, .bool false, .slice none 0 0, .int .i64 s.cur] : List Value).length ≤ zero12.length) := Nat.le_refl 12
  have SC : Hid ((Try.prog.info? 27).map (·.size) = some ([.int .u64 (s.id : Int), .int .u64 (s.ev : Int), .int .u64 (s.safe : Int), .int .i64 s.role, .int .i64 s.m, .int .i64 s.c, .int .i64 s.t, .int .i64 s.ring, .bool false, .bool false, .slice none 0 0, .int .i64 s.cur] : List Value).length) := size_super
  obtain ⟨CS, hCS⟩ : ∃ CS, CS = s.raw.conts (.slice none 0 0) s.flags (pad16 s.st) sm := ⟨_, rfl⟩
  rw [← hCS]
  replace hCS := Lib.hid hCS
  go_enter Try.func53, Try.ntmps53
  go_upto_region 1 with (with_reducible refine wpList_alloc_arr rfl 27 rfl i0 _ hi.out hz0.out ?_)
  refine wp_named (fun W hW => ?_)
  obtain ⟨S1, R1, C1⟩ := two_blocks w CS zero12 65 27 hW
  replace S1 := Lib.hid S1
  replace R1 := Lib.hid R1
  replace C1 := Lib.hid C1
  clear hW
  have RG : Hid (W.rangeAt w.heap.size 0 [.int .u64 (s.id : Int), .int .u64 (s.ev : Int), .int .u64 (s.safe : Int), .int .i64 s.role, .int .i64 s.m, .int .i64 s.c, .int .i64 s.t, .int .i64 s.ring, .bool false, .bool false, .slice none 0 0, .int .i64 s.cur]) := by
    have h := S1.out
    rw [hCS.out] at h
    intro j v hj
    refine h.cell ?_
    rw [Nat.zero_add]
    have hj12 : j < 12 := (List.getElem?_eq_some_iff.1 hj).1
    unfold Sup.conts
    rw [List.append_assoc, List.getElem?_append_left (Nat.lt_of_lt_of_le hj12 (by simp))]
    have e : ([.int .u64 (s.id : Int), .int .u64 (s.ev : Int), .int .u64 (s.safe : Int), .int .i64 s.role, .int .i64 s.m, .int .i64 s.c, .int .i64 s.t, .int .i64 s.ring, .bool false, .bool false, .slice none 0 0, .int .i64 s.cur] : List Value)[j]? = (([.int .u64 (s.id : Int), .int .u64 (s.ev : Int), .int .u64 (s.safe : Int), .int .i64 s.role, .int .i64 s.m, .int .i64 s.c, .int .i64 s.t, .int .i64 s.ring, .bool false, .bool false, .slice none 0 0, .int .i64 s.cur] : List Value) ++ [.int .u64 5407723603, .int .u8 s.flags])[j]? := (List.getElem?_append_left hj12).symm
    rw [e] at hj
    exact hj
  go_upto_region 2 with (first
    | (with_reducible refine wpList_alloc_arr rfl 27 rfl i0 _ hi.out hz0.out ?_)
    | (with_reducible refine wpList_load_mid rfl 27 (.tmp 4) rfl w.heap.size 0 rfl [.int .u64 (s.id : Int), .int .u64 (s.ev : Int), .int .u64 (s.safe : Int), .int .i64 s.role, .int .i64 s.m, .int .i64 s.c, .int .i64 s.t, .int .i64 s.ring, .bool false, .bool false, .slice none 0 0, .int .i64 s.cur] _ RG.out Try.underlying27 rfl SC.out ?_)
    | ((with_reducible refine wpList_store_blk rfl 27 (.tmp 3) (.tmp 5) rfl W.heap.size 0 27 _ _ rfl rfl (made_agg W zero12 27) LE.out SC.out ON.out ?_); intro w3 B3 C3))
  have C4 : Hid (Chg [] W w3) := ((Chg.refl [] W).alloc _).fresh C3.out (fun j hj => .inr (by rw [List.mem_singleton.1 hj]; exact Nat.le_refl _))
  have B4 : Hid (Blk w3 W.heap.size 27 [.int .u64 (s.id : Int), .int .u64 (s.ev : Int), .int .u64 (s.safe : Int), .int .i64 s.role, .int .i64 s.m, .int .i64 s.c, .int .i64 s.t, .int .i64 s.ring, .bool false, .bool false, .slice none 0 0, .int .i64 s.cur]) := by
    have e : lay zero12 0 ([.int .u64 (s.id : Int), .int .u64 (s.ev : Int), .int .u64 (s.safe : Int), .int .i64 s.role, .int .i64 s.m, .int .i64 s.c, .int .i64 s.t, .int .i64 s.ring, .bool false, .bool false, .slice none 0 0, .int .i64 s.cur] : List Value) = [.int .u64 (s.id : Int), .int .u64 (s.ev : Int), .int .u64 (s.safe : Int), .int .i64 s.role, .int .i64 s.m, .int .i64 s.c, .int .i64 s.t, .int .i64 s.ring, .bool false, .bool false, .slice none 0 0, .int .i64 s.cur] := lay_all _ _ rfl
    show Blk _ _ _ _
    rw [← e]
    exact B3.out
  have S4 := Lib.hid (S1.out.chg C4.out (by simp))
  have R4 := Lib.hid (R1.out.chg C4.out (by simp))
  have C5 := Lib.hid (C1.out.trans C4.out)
  have hRW : w.heap.size + 1 < W.heap.size := R1.out.lt
  clear S1 R1 C1 B3 C3 C4 RG ON LE SC
  obtain ⟨cb, hcb⟩ : ∃ cb, cb = W.heap.size := ⟨_, rfl⟩
  rw [← hcb] at B4 hRW ⊢
  clear hcb
  have hne : ¬ cb = w.heap.size := by omega
  have hne2 : ¬ w.heap.size = cb := by omega
  have f13 : w3.cell? ⟨w.heap.size, 13, none⟩ = some (.int .u8 s.flags) := S4.out.cell (by rw [hCS.out]; rfl)
  have b8 := B4.out.cell (j := 8) rfl
  have b9 := B4.out.cell (j := 9) rfl
  have z8 := B4.out.free 8
  have z9 := B4.out.free 9
  rcases hz : s.lazy with _ | _ <;> rcases hs : s.lost with _ | _
  all_goals (
    have FL := show (s.flags : Int) = (if s.lazy then 1 else 0) + (if s.lost then 2 else 0) by unfold Sup.flags; rw [hz, hs]; rfl
    rw [hz, hs] at FL
    simp at FL
    rw [FL] at f13
    replace FL := Lib.hid FL
    have e01 : bits .and .u8 0 1 = 0 := by kernel_rfl
    have e02 : bits .and .u8 0 2 = 0 := by kernel_rfl
    have e11 : bits .and .u8 1 1 = 1 := by kernel_rfl
    have e12 : bits .and .u8 1 2 = 0 := by kernel_rfl
    have e21 : bits .and .u8 2 1 = 0 := by kernel_rfl
    have e22 : bits .and .u8 2 2 = 2 := by kernel_rfl
    have e31 : bits .and .u8 3 1 = 1 := by kernel_rfl
    have e32 : bits .and .u8 3 2 = 2 := by kernel_rfl
    replace hz := Lib.hid hz
    replace hs := Lib.hid hs
    go_upto_region 4 with fail
    refine wp_named (fun W4 hW4 => ?_)
    have B6 : Hid (Blk W4 cb 27 [.int .u64 (s.id : Int), .int .u64 (s.ev : Int), .int .u64 (s.safe : Int), .int .i64 s.role, .int .i64 s.m, .int .i64 s.c, .int .i64 s.t, .int .i64 s.ring, .bool s.lazy, .bool s.lost, .slice none 0 0, .int .i64 s.cur]) := by
      show Blk _ _ _ _
      rw [hW4, hz.out, hs.out]
      exact (B4.out.set 8 _).set 9 _
    have S6 : Hid (Blk W4 w.heap.size 65 CS) := by
      show Blk _ _ _ _
      rw [hW4]
      exact (S4.out.other hne _).other hne _
    have R6 : Hid (Blk W4 (w.heap.size + 1) 27 zero12) := by
      have hn : ¬ cb = w.heap.size + 1 := by omega
      show Blk _ _ _ _
      rw [hW4]
      exact (R4.out.other hn _).other hn _
    have C6 : Hid (Chg [] w W4) := by
      have hn : w.heap.size ≤ cb := by omega
      show Chg _ _ _
      rw [hW4]
      exact (C5.out.setCell (.inr hn) _).setCell (.inr hn) _
    clear hW4 B4 S4 R4 C5 f13 b8 b9 z8 z9 FL e01 e02 e11 e12 e21 e22 e31 e32 hi hz0
    have c4 := B6.out.cell (j := 4) rfl
    obtain ⟨n, hn⟩ : ∃ n, n = s.st.length := ⟨_, rfl⟩
    rw [← hm, ← hn] at c4
    have CL := Lib.hid (clone_states w.heap.size 14 n 16 s.st W4 hn (by omega) (fun j hj => S6.out.cell (by rw [hCS.out]; exact conts_state s.raw _ _ _ hj)))
    have n0 : (0 : Int) ≤ n := Int.natCast_nonneg _
    have n16 : (n : Int) ≤ 16 := by omega
    have hmin : min (n : Int) 16 = n := by omega
    have SA : ∀ W' : World, (Instr.sliceAt 62 (.pointer (some ⟨w.heap.size, 14, none⟩)) none (some (.int .i64 (n : Int))) none).run Try.prog W' = .ok (.slice (some ⟨w.heap.size, 14, none⟩) n 16) W' := fun W' => by
      simp [Instr.sliceAt, run_underlying Try.underlying62, Instr.sureAddr, Instr.sliceBounds, Instr.sliceBound, asIntOf, asInt, n0, n16]
      rw [if_pos (by omega), Addr.add_lit]
    replace hm := Lib.hid hm
    replace hn := Lib.hid hn
    go_wp2_with fail
    refine CL.out.mono ?_
    rintro e w5 ⟨u, rfl, O, C⟩
    have B7 := Lib.hid (B6.out.chg C (by simp))
    have R7 := Lib.hid (R6.out.chg C (by simp))
    have C7 : Hid (Chg [] w w5) := C6.out.trans C
    have OU : Hid (w5.ownsRow W4.heap.size 61 1 u n (s.st.map (Value.int .u8))) := O
    obtain ⟨uo, uc, rfl⟩ := owns_slice O
    have hbz : cb < W4.heap.size := B6.out.lt
    have f10 := B7.out.cell (j := 10) rfl
    have z10 := B7.out.free 10
    have hcw : w.heap.size ≤ cb := by omega
    have C8 : Hid (Chg [] w (w5.setCell ⟨cb, 10, none⟩ (.slice uo n uc))) := C7.out.setCell (.inr hcw) _
    have O8 : Hid ((w5.setCell ⟨cb, 10, none⟩ (.slice uo n uc)).ownsRow W4.heap.size 61 1 (.slice uo n uc) n (s.st.map (Value.int .u8))) := owns_chg OU.out ((Chg.refl [cb] _).setCell (.inl (by simp)) _) (fun k hk hm => by have := (OU.out.lt k hk).1; rw [List.mem_singleton.1 hm] at this; omega)
    have R8 : Hid (Blk (w5.setCell ⟨cb, 10, none⟩ (.slice uo n uc)) (w.heap.size + 1) 27 zero12) := R7.out.other (by show ¬ cb = _; omega) _
    have RG8 : Hid ((w5.setCell ⟨cb, 10, none⟩ (.slice uo n uc)).rangeAt cb 0 [.int .u64 (s.id : Int), .int .u64 (s.ev : Int), .int .u64 (s.safe : Int), .int .i64 s.role, .int .i64 s.m, .int .i64 s.c, .int .i64 s.t, .int .i64 s.ring, .bool s.lazy, .bool s.lost, .slice uo n uc, .int .i64 s.cur]) := (B7.out.set 10 _).rangeAll
    have ON : Hid (∀ v ∈ ([.int .u64 (s.id : Int), .int .u64 (s.ev : Int), .int .u64 (s.safe : Int), .int .i64 s.role, .int .i64 s.m, .int .i64 s.c, .int .i64 s.t, .int .i64 s.ring, .bool s.lazy, .bool s.lost, .slice uo n uc, .int .i64 s.cur] : List Value), v.oneCell' = true) := by
      show ∀ v ∈ _, _
      rw [hn.out]
      exact one12u s uo uc
    have LE : Hid (0 + ([.int .u64 (s.id : Int), .int .u64 (s.ev : Int), .int .u64 (s.safe : Int), .int .i64 s.role, .int .i64 s.m, .int .i64 s.c, .int .i64 s.t, .int .i64 s.ring, .bool s.lazy, .bool s.lost, .slice uo n uc, .int .i64 s.cur] : List Value).length ≤ zero12.length) := Nat.le_refl 12
    have SC : Hid ((Try.prog.info? 27).map (·.size) = some ([.int .u64 (s.id : Int), .int .u64 (s.ev : Int), .int .u64 (s.safe : Int), .int .i64 s.role, .int .i64 s.m, .int .i64 s.c, .int .i64 s.t, .int .i64 s.ring, .bool s.lazy, .bool s.lost, .slice uo n uc, .int .i64 s.cur] : List Value).length) := size_super
    have hzz : w.heap.size ≤ W4.heap.size := C6.out.size
    clear O C B6 R6 C6 CL SA c4 B7 R7 C7 OU S6
    replace hz := Lib.hid hz
    replace hs := Lib.hid hs
    go_wp2_with (first
      | (with_reducible refine wpList_load_mid rfl 27 (.tmp 3) rfl cb 0 rfl [.int .u64 (s.id : Int), .int .u64 (s.ev : Int), .int .u64 (s.safe : Int), .int .i64 s.role, .int .i64 s.m, .int .i64 s.c, .int .i64 s.t, .int .i64 s.ring, .bool s.lazy, .bool s.lost, .slice uo n uc, .int .i64 s.cur] _ RG8.out Try.underlying27 rfl SC.out ?_)
      | ((with_reducible refine wpList_store_blk rfl 27 (.tmp 2) (.tmp 24) rfl (w.heap.size + 1) 0 27 zero12 [.int .u64 (s.id : Int), .int .u64 (s.ev : Int), .int .u64 (s.safe : Int), .int .i64 s.role, .int .i64 s.m, .int .i64 s.c, .int .i64 s.t, .int .i64 s.ring, .bool s.lazy, .bool s.lost, .slice uo n uc, .int .i64 s.cur] rfl rfl R8.out LE.out SC.out ON.out ?_); intro w6 B9 C9))
    have B10 : Hid (Blk w6 (w.heap.size + 1) 27 [.int .u64 (s.id : Int), .int .u64 (s.ev : Int), .int .u64 (s.safe : Int), .int .i64 s.role, .int .i64 s.m, .int .i64 s.c, .int .i64 s.t, .int .i64 s.ring, .bool s.lazy, .bool s.lost, .slice uo n uc, .int .i64 s.cur]) := by
      have e : lay zero12 0 ([.int .u64 (s.id : Int), .int .u64 (s.ev : Int), .int .u64 (s.safe : Int), .int .i64 s.role, .int .i64 s.m, .int .i64 s.c, .int .i64 s.t, .int .i64 s.ring, .bool s.lazy, .bool s.lost, .slice uo n uc, .int .i64 s.cur] : List Value) = [.int .u64 (s.id : Int), .int .u64 (s.ev : Int), .int .u64 (s.safe : Int), .int .i64 s.role, .int .i64 s.m, .int .i64 s.c, .int .i64 s.t, .int .i64 s.ring, .bool s.lazy, .bool s.lost, .slice uo n uc, .int .i64 s.cur] := lay_all _ _ rfl
      show Blk _ _ _ _
      rw [← e]
      exact B9.out
    refine bodyPost_ret (results_cell_row rfl _ _ (w.heap.size + 1) _ _ _ _ rfl B10.out Try.underlying27 rfl ?_) rfl ?_
    · exact SC.out
    · refine ⟨.slice uo n uc, rfl, ?_, C8.out.fresh C9.out (fun j hj => .inr (by rw [List.mem_singleton.1 hj]; omega))⟩
      rw [← hn.out]
      have := owns_chg O8.out C9.out (fun k hk hm => by
        have h1 := (O8.out.lt k hk).1
        rw [List.mem_singleton.1 hm] at h1
        omega)
      exact ownsRow_base this hzz)

end Go.Proofs.Ytbeejoooefgeaaa
