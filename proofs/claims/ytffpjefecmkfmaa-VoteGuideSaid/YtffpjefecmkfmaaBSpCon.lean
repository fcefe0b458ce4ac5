/-
  A superblock's content. By an AI agent.
-/
import Derived.Test.YtffpjefecmkfmaaBSpChk
import Derived.Test.YtffpjefecmkfmaaBSpPack
import Derived.Deep.CutBlock
import Derived.Deep.DeepCutAuto
namespace Go.Proofs.Ytffpjefecmkfmaa
open Go.RowKit

/-- The cells of a content. -/
def Sup.conts (s : Sup) (u : Value) (fl : Int) (sts : List Value) (sm : Int) : List Value :=
  [.int .u64 (s.id : Int), .int .u64 (s.ev : Int), .int .u64 (s.safe : Int), .int .i64 s.role, .int .i64 s.m, .int .i64 s.c, .int .i64 s.t, .int .i64 s.ring, .bool s.lazy, .bool s.lost, u, .int .i64 s.cur, .int .u64 5407723603, .int .u8 fl] ++ sts ++ [.int .u32 sm]

/-- The states, noughts behind them. -/
def pad16 (st : List Int) : List Value := st.map (Value.int .u8) ++ List.replicate (16 - st.length) (.int .u8 0)

theorem pad16_len {st : List Int} (h : st.length ≤ 16) : (pad16 st).length = 16 := by simp [pad16]; omega

theorem size_state : (Try.prog.info? 37).map (·.size) = some 1 := by kernel_rfl

theorem lay_mid {α : Type} (H T ys : List α) (z : α) (k n : Nat) (hn : H.length = n) (hy : ys.length ≤ k) : lay (H ++ List.replicate k z ++ T) n ys = H ++ (ys ++ List.replicate (k - ys.length) z) ++ T := by
  subst hn
  unfold lay
  rw [List.append_assoc H, List.take_left, ← List.drop_drop, List.drop_left, List.drop_append, List.drop_replicate, List.length_replicate, show ys.length - k = 0 by omega, List.drop_zero]
  simp

theorem lay_states (s : Sup) (u : Value) (fl : Int) (h : s.st.length ≤ 16) : lay (s.conts u fl (pad16 []) 0) 14 (s.st.map (Value.int .u8)) = s.conts u fl (pad16 s.st) 0 := by
  unfold Sup.conts pad16
  have := lay_mid ([.int .u64 (s.id : Int), .int .u64 (s.ev : Int), .int .u64 (s.safe : Int), .int .i64 s.role, .int .i64 s.m, .int .i64 s.c, .int .i64 s.t, .int .i64 s.ring, .bool s.lazy, .bool s.lost, u, .int .i64 s.cur, .int .u64 5407723603, .int .u8 fl] : List Value) [.int .u32 0] (s.st.map (Value.int .u8)) (.int .u8 0) 16 14 rfl (by rw [List.length_map]; exact h)
  rw [List.length_map] at this
  simpa using this

theorem wp_named {P : Program} {c : Code} {Q : Exit → Act → World → Prop} {a : Act} {W : World} (h : ∀ W', W' = W → c.wp P Q a W') : c.wp P Q a W := h W rfl

theorem three_blocks (w : World) (xs ys zs : List Value) (t1 t2 t3 : TypeId) :
    let W := (((w.alloc (.cells xs.toArray t1)).alloc (.cells ys.toArray t2)).alloc (.cells zs.toArray t3))
    Blk W w.heap.size t1 xs ∧ Blk W (w.heap.size + 1) t2 ys ∧ Blk W (w.heap.size + 1 + 1) t3 zs ∧ Chg [] w W := by
  have e1 : (w.alloc (.cells xs.toArray t1)).heap.size = w.heap.size + 1 := by simp
  have e2 : ((w.alloc (.cells xs.toArray t1)).alloc (.cells ys.toArray t2)).heap.size = w.heap.size + 1 + 1 := by simp
  refine ⟨((Blk.made w xs t1).alloc _).alloc _, ?_, ?_, (((Chg.refl [] w).alloc _).alloc _).alloc _⟩
  · rw [← e1]
    exact (Blk.made _ ys t2).alloc _
  · rw [← e2]
    exact Blk.made _ zs t3

theorem third_block (w : World) (xs ys zs : List Value) (t1 t2 t3 : TypeId) : Blk (((w.alloc (.cells xs.toArray t1)).alloc (.cells ys.toArray t2)).alloc (.cells zs.toArray t3)) (w.heap.size + 1 + 1) t3 zs := (three_blocks w xs ys zs t1 t2 t3).2.2.1
theorem first_block (w : World) (xs ys zs : List Value) (t1 t2 t3 : TypeId) : Blk (((w.alloc (.cells xs.toArray t1)).alloc (.cells ys.toArray t2)).alloc (.cells zs.toArray t3)) w.heap.size t1 xs := (three_blocks w xs ys zs t1 t2 t3).1
theorem second_block (w : World) (xs ys zs : List Value) (t1 t2 t3 : TypeId) : Blk (((w.alloc (.cells xs.toArray t1)).alloc (.cells ys.toArray t2)).alloc (.cells zs.toArray t3)) (w.heap.size + 1) t2 ys := (three_blocks w xs ys zs t1 t2 t3).2.1
theorem three_chg (w : World) (xs ys zs : List Value) (t1 t2 t3 : TypeId) : Chg [] w (((w.alloc (.cells xs.toArray t1)).alloc (.cells ys.toArray t2)).alloc (.cells zs.toArray t3)) := (three_blocks w xs ys zs t1 t2 t3).2.2.2

theorem made_agg (w : World) (zs : List Value) (t : TypeId) : Blk (w.alloc (.cells (Value.agg zs.toArray).cells t)) w.heap.size t zs := Blk.made w zs t

theorem info_content : (Try.prog.info? 73).map (fun i => (i.zero, i.size, i.bytes)) = some (some (.agg zeroC.toArray), 31, 136) := by kernel_rfl

theorem two_blocks (w : World) (xs ys : List Value) (t1 t2 : TypeId) {W : World} (h : W = (w.alloc (.cells xs.toArray t1)).alloc (.cells ys.toArray t2)) : Blk W w.heap.size t1 xs ∧ Blk W (w.heap.size + 1) t2 ys ∧ Chg [] w W := by
  subst h
  have e1 : (w.alloc (.cells xs.toArray t1)).heap.size = w.heap.size + 1 := by simp
  refine ⟨(Blk.made w xs t1).alloc _, ?_, (((Chg.refl [] w).alloc _).alloc _)⟩
  rw [← e1]
  exact Blk.made _ ys t2

theorem conts_one (s : Sup) (u : Value) (fl : Int) (sts : List Value) (sm : Int) (hu : u.oneCell' = true) (hs : ∀ v ∈ sts, v.oneCell' = true) : ∀ v ∈ s.conts u fl sts sm, v.oneCell' = true := by
  intro v hv
  unfold Sup.conts at hv
  rcases List.mem_append.1 hv with hv | hv
  · rcases List.mem_append.1 hv with hv | hv
    · simp only [List.mem_cons, List.not_mem_nil, or_false] at hv
      rcases hv with rfl | rfl | rfl | rfl | rfl | rfl | rfl | rfl | rfl | rfl | rfl | rfl | rfl | rfl <;> first | rfl | exact hu
    · exact hs v hv
  · rw [List.mem_singleton.1 hv]; rfl

theorem pad16_one (st : List Int) : ∀ v ∈ pad16 st, v.oneCell' = true := by
  intro v hv
  rcases List.mem_append.1 hv with hv | hv
  · obtain ⟨x, _, rfl⟩ := List.mem_map.1 hv
    rfl
  · rw [(List.mem_replicate.1 hv).2]; rfl

theorem conts_len (s : Sup) (u : Value) (fl : Int) (sts : List Value) (sm : Int) (h : sts.length = 16) : (s.conts u fl sts sm).length = 31 := by
  simp [Sup.conts, h]

/-- The cells of a superblock. -/
def Sup.cells (s : Sup) (u : Value) : List Value := [.int .u64 (s.id : Int), .int .u64 (s.ev : Int), .int .u64 (s.safe : Int), .int .i64 s.role, .int .i64 s.m, .int .i64 s.c, .int .i64 s.t, .int .i64 s.ring, .bool s.lazy, .bool s.lost, u, .int .i64 s.cur]

theorem size_super : (Try.prog.info? 29).map (·.size) = some 12 := by kernel_rfl

set_option maxHeartbeats 8000000 in
set_option maxRecDepth 100000 in
theorem content_any (s : Sup) (u : Value) (w : World) (hu : Sl w u s.st) (hg : s.st.length ≤ 16) :
    Calls Try.prog 41 #[s.val u] w fun e w' => e = .returned (.agg (s.conts u s.flags (pad16 s.st) 0).toArray) ∧ Hid (Chg [] w w') := by
  have HL := Lib.hid (lay_states s u s.flags hg)
  obtain ⟨ao, cp, rfl⟩ := hu.slice
  have U := Lib.hid hu
  have HG := Lib.hid hg
  clear hu hg
  obtain ⟨i0, hi, hz0, hz1, hz2⟩ := info_parts info_content
  replace hi := Lib.hid hi
  replace hz0 := Lib.hid hz0
  clear hz1 hz2
  have ON : Hid (∀ v ∈ ([.int .u64 (s.id : Int), .int .u64 (s.ev : Int), .int .u64 (s.safe : Int), .int .i64 s.role, .int .i64 s.m, .int .i64 s.c, .int .i64 s.t, .int .i64 s.ring, .bool s.lazy, .bool s.lost, .slice ao s.st.length cp, .int .i64 s.cur, .int .u64 5407723603, .int .u8 0, .int .u8 0, .int .u8 0, .int .u8 0, .int .u8 0, .int .u8 0, .int .u8 0, .int .u8 0, .int .u8 0, .int .u8 0, .int .u8 0, .int .u8 0, .int .u8 0, .int .u8 0, .int .u8 0, .int .u8 0, .int .u8 0, .int .u32 0] : List Value), v.oneCell' = true) := conts_one s (.slice ao s.st.length cp) 0 (pad16 []) 0 rfl (pad16_one [])
  have LE : Hid (0 + ([.int .u64 (s.id : Int), .int .u64 (s.ev : Int), .int .u64 (s.safe : Int), .int .i64 s.role, .int .i64 s.m, .int .i64 s.c, .int .i64 s.t, .int .i64 s.ring, .bool s.lazy, .bool s.lost, .slice ao s.st.length cp, .int .i64 s.cur, .int .u64 5407723603, .int .u8 0, .int .u8 0, .int .u8 0, .int .u8 0, .int .u8 0, .int .u8 0, .int .u8 0, .int .u8 0, .int .u8 0, .int .u8 0, .int .u8 0, .int .u8 0, .int .u8 0, .int .u8 0, .int .u8 0, .int .u8 0, .int .u8 0, .int .u32 0] : List Value).length ≤ zeroC.length) := Nat.le_refl 31
  have SC : Hid ((Try.prog.info? 73).map (·.size) = some ([.int .u64 (s.id : Int), .int .u64 (s.ev : Int), .int .u64 (s.safe : Int), .int .i64 s.role, .int .i64 s.m, .int .i64 s.c, .int .i64 s.t, .int .i64 s.ring, .bool s.lazy, .bool s.lost, .slice ao s.st.length cp, .int .i64 s.cur, .int .u64 5407723603, .int .u8 0, .int .u8 0, .int .u8 0, .int .u8 0, .int .u8 0, .int .u8 0, .int .u8 0, .int .u8 0, .int .u8 0, .int .u8 0, .int .u8 0, .int .u8 0, .int .u8 0, .int .u8 0, .int .u8 0, .int .u8 0, .int .u8 0, .int .u32 0] : List Value).length) := size_content
  unfold Sup.val
  go_enter Try.func41, Try.ntmps41
  go_upto_region 1 with (with_reducible refine wpList_alloc_arr rfl 73 rfl i0 _ hi.out hz0.out ?_)
  refine wp_named (fun W hW => ?_)
  obtain ⟨S1, R1, C1⟩ := two_blocks w (s.cells (.slice ao s.st.length cp)) zeroC 29 73 hW
  replace S1 := Lib.hid S1
  replace R1 := Lib.hid R1
  replace C1 := Lib.hid C1
  clear hW
  have RG : Hid (W.rangeAt w.heap.size 0 [.int .u64 (s.id : Int), .int .u64 (s.ev : Int), .int .u64 (s.safe : Int), .int .i64 s.role, .int .i64 s.m, .int .i64 s.c, .int .i64 s.t, .int .i64 s.ring, .bool s.lazy, .bool s.lost, .slice ao s.st.length cp, .int .i64 s.cur]) := S1.out.rangeAll
  have SZ : Hid ((Try.prog.info? 29).map (·.size) = some ([.int .u64 (s.id : Int), .int .u64 (s.ev : Int), .int .u64 (s.safe : Int), .int .i64 s.role, .int .i64 s.m, .int .i64 s.c, .int .i64 s.t, .int .i64 s.ring, .bool s.lazy, .bool s.lost, .slice ao s.st.length cp, .int .i64 s.cur] : List Value).length) := size_super
  go_upto_region 2 with (first
    | (with_reducible refine wpList_alloc_arr rfl 73 rfl i0 _ hi.out hz0.out ?_)
    | (with_reducible refine wpList_load_mid rfl 29 (.tmp 1) rfl w.heap.size 0 rfl [.int .u64 (s.id : Int), .int .u64 (s.ev : Int), .int .u64 (s.safe : Int), .int .i64 s.role, .int .i64 s.m, .int .i64 s.c, .int .i64 s.t, .int .i64 s.ring, .bool s.lazy, .bool s.lost, .slice ao s.st.length cp, .int .i64 s.cur] _ RG.out Try.underlying29 rfl SZ.out ?_)
    | ((with_reducible refine wpList_store_blk rfl 73 (.tmp 3) (.tmp 5) rfl W.heap.size 0 73 _ _ rfl rfl (made_agg W zeroC 73) LE.out SC.out ON.out ?_); intro w3 B3 C3))
  have C4 : Hid (Chg [] W w3) := ((Chg.refl [] W).alloc _).fresh C3.out (fun j hj => .inr (by rw [List.mem_singleton.1 hj]; exact Nat.le_refl _))
  have B4 : Hid (Blk w3 W.heap.size 73 (s.conts (.slice ao s.st.length cp) 0 (pad16 []) 0)) := by
    have e : lay zeroC 0 (s.conts (.slice ao s.st.length cp) 0 (pad16 []) 0) = s.conts (.slice ao s.st.length cp) 0 (pad16 []) 0 := lay_all _ _ rfl
    show Blk _ _ _ _
    rw [← e]
    exact B3.out
  have S4 := Lib.hid (S1.out.chg C4.out (by simp))
  have R4 := Lib.hid (R1.out.chg C4.out (by simp))
  have C5 := Lib.hid (C1.out.trans C4.out)
  have hRW : w.heap.size + 1 < W.heap.size := R1.out.lt
  clear S1 R1 C1 B3 C3 C4 RG SZ ON LE SC
  obtain ⟨cb, hcb⟩ : ∃ cb, cb = W.heap.size := ⟨_, rfl⟩
  rw [← hcb] at B4 hRW ⊢
  clear hcb
  have hne : ¬ cb = w.heap.size := by omega
  have hne2 : ¬ w.heap.size = cb := by omega
  have c6 := S4.out.cell (j := 6) rfl
  have c7 := S4.out.cell (j := 7) rfl
  have c8 := S4.out.cell (j := 8) rfl
  have c9 := S4.out.cell (j := 9) rfl
  have f13 := B4.out.cell (j := 13) rfl
  have z13 := B4.out.free 13
  rcases hz : s.lazy with _ | _ <;> rcases hs : s.lost with _ | _
  all_goals (
    rw [hz] at c8
    rw [hs] at c9
    have FL := Lib.hid (show (s.flags : Int) = (if s.lazy then 1 else 0) + (if s.lost then 2 else 0) by unfold Sup.flags; rw [hz, hs]; rfl)
    rw [hz, hs] at FL
    replace hz := Lib.hid hz
    replace hs := Lib.hid hs
    go_upto_region 6 with fail
    refine wp_named (fun W2 hW2 => ?_)
    have FLo := FL.out
    simp at FLo
    have e1 : bits .or .u8 0 1 = 1 := by kernel_rfl
    have e2 : bits .or .u8 0 2 = 2 := by kernel_rfl
    have e3 : bits .or .u8 1 2 = 3 := by kernel_rfl
    (try simp only [e1, e2, e3] at hW2)
    have B6 : Hid (Blk W2 cb 73 (s.conts (.slice ao s.st.length cp) s.flags (pad16 []) 0)) := by
      show Blk _ _ _ _
      rw [hW2, FLo]
      first | exact B4.out | exact B4.out.set 13 _ | exact (B4.out.set 13 _).set 13 _
    have S6 : Hid (Blk W2 w.heap.size 29 (s.cells (.slice ao s.st.length cp))) := by
      show Blk _ _ _ _
      rw [hW2]
      first | exact S4.out | exact S4.out.other hne _ | exact (S4.out.other hne _).other hne _
    have R6 : Hid (Blk W2 (w.heap.size + 1) 73 zeroC) := by
      have hn : ¬ cb = w.heap.size + 1 := by omega
      show Blk _ _ _ _
      rw [hW2]
      first | exact R4.out | exact R4.out.other hn _ | exact (R4.out.other hn _).other hn _
    have C6 : Hid (Chg [] w W2) := by
      have hn : w.heap.size ≤ cb := by omega
      show Chg _ _ _
      rw [hW2]
      first | exact C5.out | exact C5.out.setCell (.inr hn) _ | exact (C5.out.setCell (.inr hn) _).setCell (.inr hn) _
    clear hW2 FLo e1 e2 e3 B4 S4 R4 C5 c6 c7 c8 c9 f13 z13 FL hz hs
    have d10 := S6.out.cell (j := 10) rfl
    go_still_tail 4, (by kernel_rfl)
    change wpList _ _ _ _ _ W2.drew
    have B6d : Hid (Blk W2.drew cb 73 (s.conts (.slice ao s.st.length cp) s.flags (pad16 []) 0)) := B6.out.drewN 1
    have UU : Hid (0 < (s.st.map (Value.int .u8)).length → (some ⟨cb, 14, none⟩ : Option Addr) = some ⟨cb, 14, none⟩ ∧ ∃ ad, ao = some ad ∧ ∀ j v, (s.st.map (Value.int .u8))[j]? = some v → W2.drew.cell? (ad.add j) = some v) := by
      intro hp
      refine ⟨rfl, ?_⟩
      have US := U.out.chg (C6.out.drewN 1) (by simp)
      rcases US with ⟨h0, _⟩ | ⟨b', o', c', hv', hb', hc'⟩
      · rw [List.length_map, h0] at hp; simp at hp
      · obtain ⟨rfl, rfl⟩ : ao = some ⟨b', o', none⟩ ∧ cp = c' := by simpa using hv'
        refine ⟨_, rfl, fun j v hj => ?_⟩
        have hjn : j < s.st.length := by simpa using (List.getElem?_eq_some_iff.1 hj).1
        have e : (s.st.map (Value.int .u8))[j]? = some (Value.int .u8 (s.st.getD j 0)) := by simp [List.getD, List.getElem?_eq_getElem hjn]
        rw [e] at hj
        rw [Addr.add_lit, ← hj]
        exact hc' j hjn
    have MN : Hid ((s.st.map (Value.int .u8)).length = Nat.min s.st.length 16) := by
      show _ = _
      rw [List.length_map]
      exact (Nat.min_eq_left HG.out).symm
    have FT : Hid (14 + (s.st.map (Value.int .u8)).length ≤ (s.conts (.slice ao s.st.length cp) s.flags (pad16 []) 0).length) := by
      show _ ≤ _
      rw [conts_len _ _ _ _ _ rfl, List.length_map]
      have := HG.out
      omega
    have O1 : Hid (∀ v ∈ s.st.map (Value.int .u8), v.oneCell' = true) := fun v hv => by obtain ⟨x, _, rfl⟩ := List.mem_map.1 hv; rfl
    go_upto_region 7 with ((with_reducible refine wpList_copy_blk rfl (.tmp 19) (.tmp 21) 27 27 rfl 37 Try.underlying27 size_state (some ⟨cb, 14, none⟩) ao 16 16 s.st.length cp rfl rfl cb 14 (s.conts (.slice ao s.st.length cp) s.flags (pad16 []) 0) 73 B6d.out (s.st.map (Value.int .u8)) MN.out UU.out FT.out O1.out ?_); intro w5 B7 C7)
    have hRR : ¬ w.heap.size + 1 = cb := by omega
    have R7 : Hid (Blk w5 (w.heap.size + 1) 73 zeroC) := (R6.out.drewN 1).chg C7.out (by simpa using hRR)
    have C8 : Hid (Chg [] w w5) := (C6.out.drewN 1).fresh C7.out (fun j hj => .inr (by rw [List.mem_singleton.1 hj]; omega))
    rw [HL.out] at B7
    have RG : Hid (w5.rangeAt cb 0 (s.conts (.slice ao s.st.length cp) s.flags (pad16 s.st) 0)) := B7.out.rangeAll
    have UL := conts_len s (.slice ao s.st.length cp) s.flags (pad16 s.st) 0 (pad16_len HG.out)
    have SC : Hid ((Try.prog.info? 73).map (·.size) = some (s.conts (.slice ao s.st.length cp) s.flags (pad16 s.st) 0).length) := by show _ = _; rw [UL]; exact size_content
    have LE : Hid (0 + (s.conts (.slice ao s.st.length cp) s.flags (pad16 s.st) 0).length ≤ zeroC.length) := by show _ ≤ _; rw [UL]; exact Nat.le_refl 31
    have ON := Lib.hid (conts_one s (.slice ao s.st.length cp) s.flags (pad16 s.st) 0 rfl (pad16_one _))
    have EL : Hid (lay zeroC 0 (s.conts (.slice ao s.st.length cp) s.flags (pad16 s.st) 0) = s.conts (.slice ao s.st.length cp) s.flags (pad16 s.st) 0) := lay_all _ _ (by rw [UL]; rfl)
    clear UL B6d UU MN FT O1 B6 S6 R6 C6 d10 U HG hi hz0 HL
    generalize hCS : s.conts (.slice ao s.st.length cp) s.flags (pad16 s.st) 0 = CS at *
    replace hCS := Lib.hid hCS
    go_wp2_with (first
      | (with_reducible refine wpList_load_mid rfl 73 (.tmp 3) rfl cb 0 rfl CS _ RG.out Try.underlying73 rfl SC.out ?_)
      | ((with_reducible refine wpList_store_blk rfl 73 (.tmp 2) (.tmp 23) rfl (w.heap.size + 1) 0 73 _ CS rfl rfl R7.out LE.out SC.out ON.out ?_); intro w6 B8 C9))
    rw [EL.out] at B8
    refine bodyPost_ret (results_cell_row rfl _ _ (w.heap.size + 1) _ _ _ _ rfl B8.out Try.underlying73 rfl ?_) rfl ?_
    · rw [List.size_toArray]
      exact SC.out
    · exact ⟨by rw [hCS.out], C8.out.fresh C9.out (fun j hj => .inr (by rw [List.mem_singleton.1 hj]; omega))⟩)

end Go.Proofs.Ytffpjefecmkfmaa
