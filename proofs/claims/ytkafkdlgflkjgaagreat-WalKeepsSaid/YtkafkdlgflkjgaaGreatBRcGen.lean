/-
  What both sides of a record lean on. By an AI agent.
-/
import Derived.Test.YtkafkdlgflkjgaaGreatBG
import Derived.Test.YtkafkdlgflkjgaaGreatBGAppend
import Derived.Test.YtkafkdlgflkjgaaGreatBMem
import Derived.Lib.AppendStr
import Derived.Deep.CutBlock
import Derived.Deep.DeepCutAuto
import Derived.Laws.BytesArg
namespace Go.Proofs.YtkafkdlgflkjgaaGreat
open Crc Go.RowKit

theorem ints_app (a b : List Nat) : ints (a ++ b) = ints a ++ ints b := by simp [ints]

/-- A list of bytes that is grown. -/
structure Ext (base : Nat) (w : World) (v : Value) (ys : List Nat) (w' : World) (v' : Value) : Prop where
 own : w'.ownsRow base 5 1 v' ys.length ((ints ys).map (Value.int .u8))
 chg : Chg v.ownBlock.toList w w'
 blk : v'.ownBlock = v.ownBlock ∨ ∃ k, v'.ownBlock = some k ∧ w.heap.size ≤ k

theorem Ext.trans {base : Nat} {w w1 w2 : World} {v v1 v2 : Value} {ys zs : List Nat} (h : Ext base w v ys w1 v1) (k : Ext base w1 v1 zs w2 v2) : Ext base w v zs w2 v2 := by
 refine ⟨k.own, h.chg.fresh k.chg (fun j hj => ?_), ?_⟩
 ·rcases h.blk with e | ⟨q, e, hq⟩
  ·rw [e] at hj; exact .inl hj
  ·rw [e] at hj
   have : j = q := by simpa using hj
   exact .inr (by omega)
 ·rcases k.blk with e | ⟨q, e, hq⟩
  ·rcases h.blk with e2 | ⟨q2, e2, hq2⟩
   ·exact .inl (e.trans e2)
   ·exact .inr ⟨q2, e.trans e2, hq2⟩
  ·exact .inr ⟨q, e, Nat.le_trans h.chg.size hq⟩

theorem Ext.refl {base : Nat} {w : World} {v : Value} {ys : List Nat} (h : w.ownsRow base 5 1 v ys.length ((ints ys).map (Value.int .u8))) : Ext base w v ys w v := ⟨h, Chg.refl _ _, .inl rfl⟩

/-- What an append made of it, the bytes appended lying in a block that was made ahead. -/
theorem Ext.app {base : Nat} {w W w' : World} {v v' : Value} {ys zs : List Nat} (o : Obj) (hW : W = w.alloc o) (own : w'.ownsRow base 5 1 v' (ys.length + zs.length) ((ints ys).map (Value.int .u8) ++ (ints zs).map (Value.int .u8))) (hg : W.grownBy w' v.ownBlock)
 (hb : v'.ownBlock = v.ownBlock ∨ (v'.ownBlock = some W.heap.size ∧ W.grownBy w' none)) : Ext base w v (ys ++ zs) w' v' := by
 subst hW
 refine ⟨by rw [ints_app, List.map_append, List.length_append]; exact own, ((Chg.refl v.ownBlock.toList w).alloc o).grown hg (fun k hk => .inl (by rw [hk]; simp)), ?_⟩
 rcases hb with e | ⟨e, _⟩
 ·exact .inl e
 ·exact .inr ⟨_, e, by simp⟩

theorem strOfNums_inj {a b : List Nat} (ha : Bs a) (hb : Bs b) (h : (strOfNums (ints a)).toList = (strOfNums (ints b)).toList) : a = b := by
 have h1 : (strOfNums (ints a)).data.toList = (strOfNums (ints b)).data.toList := by rw [← ByteArray.toList_eq, ← ByteArray.toList_eq, h]
 rw [strOfNums_data, strOfNums_data] at h1
 unfold ints at h1
 rw [List.map_map, List.map_map] at h1
 have h2 := congrArg (List.map UInt8.toNat) h1
 rw [List.map_map, List.map_map] at h2
 have k : ∀ l : List Nat, Bs l → l.map (UInt8.toNat ∘ ((fun n : Int => UInt8.ofNat n.toNat) ∘ fun x : Nat => (x : Int))) = l := fun l hl => by
  conv => rhs; rw [← List.map_id l]
  refine List.map_congr_left (fun x hx => ?_)
  have := hl x hx
  simp
  omega
 exact (k a ha).symm.trans (h2.trans (k b hb))

end Go.Proofs.YtkafkdlgflkjgaaGreat

/-
  The program's checks of records, what a sector looks like. By an AI agent.
-/
namespace Go.Proofs.YtkafkdlgflkjgaaGreat
open Crc Go.RowKit

set_option maxHeartbeats 1000000 in
theorem within_any (n a b : Int) (w : World) : Calls Tryz.prog 181 #[.int .i64 n, .int .i64 a, .int .i64 b] w fun e w' => e = .returned (.bool (decide (a ≤ n ∧ n ≤ b))) ∧ w = w' := by
 by_cases h1 : a ≤ n
 ·by_cases h2 : n ≤ b
  ·rw [decide_eq_true ⟨h1, h2⟩]
   go_enter Tryz.func181, Tryz.ntmps181
   go_wp2_with fail
   go_ret
   exact ⟨by first | rfl | simp, rfl⟩
  ·rw [decide_eq_false (fun h => h2 h.2)]
   go_enter Tryz.func181, Tryz.ntmps181
   go_wp2_with fail
   go_ret
   exact ⟨by first | rfl | simp, rfl⟩
 ·rw [decide_eq_false (fun h => h1 h.1)]
  go_enter Tryz.func181, Tryz.ntmps181
  go_wp2_with fail
  go_ret
  exact ⟨by first | rfl | simp, rfl⟩

set_option maxHeartbeats 1000000 in
theorem withinU_any (n a b : Int) (w : World) : Calls Tryz.prog 241 #[.int .u64 n, .int .u64 a, .int .u64 b] w fun e w' => e = .returned (.bool (decide (a ≤ n ∧ n ≤ b))) ∧ w = w' := by
 by_cases h1 : a ≤ n
 ·by_cases h2 : n ≤ b
  ·rw [decide_eq_true ⟨h1, h2⟩]
   go_enter Tryz.func241, Tryz.ntmps241
   go_wp2_with fail
   go_ret
   exact ⟨by first | rfl | simp, rfl⟩
  ·rw [decide_eq_false (fun h => h2 h.2)]
   go_enter Tryz.func241, Tryz.ntmps241
   go_wp2_with fail
   go_ret
   exact ⟨by first | rfl | simp, rfl⟩
 ·rw [decide_eq_false (fun h => h1 h.1)]
  go_enter Tryz.func241, Tryz.ntmps241
  go_wp2_with fail
  go_ret
  exact ⟨by first | rfl | simp, rfl⟩

set_option maxHeartbeats 1000000 in
theorem numbers_any (ep sq : Nat) (w : World) : Calls Tryz.prog 180 #[.int .u64 ep, .int .u64 sq] w fun e w' => e = .returned (.bool (decide (numsOk ep sq))) ∧ w = w' := by
 have N1 := withinU_any ep 0 4611686018427387904 w
 have N2 := withinU_any sq 1 4611686018427387904 w
 by_cases h1 : ep ≤ 4611686018427387904
 ·rw [decide_eq_true (show (0 : Int) ≤ ep ∧ (ep : Int) ≤ 4611686018427387904 by omega)] at N1
  have e : decide (numsOk ep sq) = decide ((1 : Int) ≤ sq ∧ (sq : Int) ≤ 4611686018427387904) := by
   unfold numsOk
   refine decide_eq_decide.2 ?_
   omega
  rw [e]
  generalize decide ((1 : Int) ≤ sq ∧ (sq : Int) ≤ 4611686018427387904) = d at *
  clear e h1
  go_enter Tryz.func180, Tryz.ntmps180
  go_wp2_with fail
  refine N1.mono ?_
  rintro e w1 ⟨rfl, rfl⟩
  go_wp2_with fail
  refine N2.mono ?_
  rintro e w1 ⟨rfl, rfl⟩
  go_wp2_with fail
  go_ret
  exact ⟨by first | rfl | simp, rfl⟩
 ·rw [decide_eq_false (show ¬ ((0 : Int) ≤ ep ∧ (ep : Int) ≤ 4611686018427387904) by omega)] at N1
  rw [decide_eq_false (show ¬ numsOk ep sq from fun h => h1 h.1)]
  clear h1
  go_enter Tryz.func180, Tryz.ntmps180
  go_wp2_with fail
  refine N1.mono ?_
  rintro e w1 ⟨rfl, rfl⟩
  go_wp2_with fail
  go_ret
  exact ⟨by first | rfl | simp, rfl⟩

set_option maxHeartbeats 4000000 in
set_option maxRecDepth 100000 in
theorem headerValid_any (h : Hd) (w : World) : Calls Tryz.prog 217 #[h.val] w fun e w' => e = .returned (.bool (decide h.Ok)) ∧ Hid (Chg [] w w') := by
 unfold Hd.val
 have C : Hid (Chg [] w (w.alloc (.cells #[.int .u64 (h.ep : Int), .int .u64 (h.sq : Int), .int .i64 h.ix, .int .i64 h.ct, .int .i64 h.mb, .int .i64 h.rw', .bool h.esc, .int .u32 (h.sm : Int)] 256))) := (Chg.refl _ w).alloc _
 have N1 := Lib.hid (fun W => numbers_any h.ep h.sq W)
 have N2 := Lib.hid (fun W => within_any h.ct 1 1023 W)
 have N3 := Lib.hid (fun W => within_any h.ix 0 (h.ct - 1) W)
 have N4 := Lib.hid (fun W => within_any h.mb 0 15 W)
 have N5 := Lib.hid (fun W => within_any h.rw' 0 4095 W)
 by_cases k1 : numsOk h.ep h.sq
 case neg =>
  rw [decide_eq_false k1] at N1
  rw [decide_eq_false (show ¬ h.Ok from fun k => k1 k.1)]
  clear k1
  go_enter Tryz.func217, Tryz.ntmps217
  go_wp2_with fail
  refine (N1.out _).mono ?_
  rintro e w1 ⟨rfl, rfl⟩
  go_wp2_with fail
  go_ret
  exact ⟨by first | rfl | simp, C⟩
 rw [decide_eq_true k1] at N1
 by_cases k2 : 1 ≤ h.ct ∧ h.ct ≤ 1023
 case neg =>
  rw [decide_eq_false k2] at N2
  rw [decide_eq_false (show ¬ h.Ok from fun k => k2 ⟨k.2.1, k.2.2.1⟩)]
  clear k1 k2
  go_enter Tryz.func217, Tryz.ntmps217
  go_wp2_with fail
  refine (N1.out _).mono ?_
  rintro e w1 ⟨rfl, rfl⟩
  go_wp2_with fail
  refine (N2.out _).mono ?_
  rintro e w1 ⟨rfl, rfl⟩
  go_wp2_with fail
  go_ret
  exact ⟨by first | rfl | simp, C⟩
 rw [decide_eq_true k2] at N2
 have hw : IntKind.i64.wrap (h.ct - 1) = h.ct - 1 := IntWalk.i64_in _ (by omega)
 have e : decide h.Ok = (decide (0 ≤ h.ix ∧ h.ix ≤ h.ct - 1) && (decide (0 ≤ h.mb ∧ h.mb ≤ 15) && decide (0 ≤ h.rw' ∧ h.rw' ≤ 4095))) := by
  rw [← Bool.decide_and, ← Bool.decide_and]
  refine decide_eq_decide.2 ?_
  unfold Hd.Ok
  constructor
  ·rintro ⟨_, _, _, a, b, c, d, e, f⟩
   exact ⟨⟨a, by omega⟩, ⟨c, d⟩, e, f⟩
  ·rintro ⟨⟨a, b⟩, ⟨c, d⟩, e, f⟩
   exact ⟨k1, k2.1, k2.2, a, by omega, c, d, e, f⟩
 rw [e]
 clear e k1
 have kc0 := k2.1
 have kc1 := k2.2
 clear k2
 rcases d3 : decide (0 ≤ h.ix ∧ h.ix ≤ h.ct - 1) with _ | _
 all_goals rw [d3] at N3
 all_goals clear d3
 case false =>
  go_enter Tryz.func217, Tryz.ntmps217
  go_wp2_with fail
  refine (N1.out _).mono ?_
  rintro e w1 ⟨rfl, rfl⟩
  go_wp2_with fail
  refine (N2.out _).mono ?_
  rintro e w1 ⟨rfl, rfl⟩
  go_wp2_with fail
  refine (N3.out _).mono ?_
  rintro e w1 ⟨rfl, rfl⟩
  go_wp2_with fail
  go_ret
  exact ⟨by first | rfl | simp, C⟩
 rcases d4 : decide (0 ≤ h.mb ∧ h.mb ≤ 15) with _ | _
 all_goals rw [d4] at N4
 all_goals clear d4
 case false =>
  go_enter Tryz.func217, Tryz.ntmps217
  go_wp2_with fail
  refine (N1.out _).mono ?_
  rintro e w1 ⟨rfl, rfl⟩
  go_wp2_with fail
  refine (N2.out _).mono ?_
  rintro e w1 ⟨rfl, rfl⟩
  go_wp2_with fail
  refine (N3.out _).mono ?_
  rintro e w1 ⟨rfl, rfl⟩
  go_wp2_with fail
  refine (N4.out _).mono ?_
  rintro e w1 ⟨rfl, rfl⟩
  go_wp2_with fail
  go_ret
  exact ⟨by first | rfl | simp, C⟩
 generalize decide (0 ≤ h.rw' ∧ h.rw' ≤ 4095) = d at *
 go_enter Tryz.func217, Tryz.ntmps217
 go_wp2_with fail
 refine (N1.out _).mono ?_
 rintro e w1 ⟨rfl, rfl⟩
 go_wp2_with fail
 refine (N2.out _).mono ?_
 rintro e w1 ⟨rfl, rfl⟩
 go_wp2_with fail
 refine (N3.out _).mono ?_
 rintro e w1 ⟨rfl, rfl⟩
 go_wp2_with fail
 refine (N4.out _).mono ?_
 rintro e w1 ⟨rfl, rfl⟩
 go_wp2_with fail
 refine (N5.out _).mono ?_
 rintro e w1 ⟨rfl, rfl⟩
 go_wp2_with fail
 go_ret
 exact ⟨by first | rfl | simp, C⟩

set_option maxHeartbeats 4000000 in
set_option maxRecDepth 100000 in
theorem commitValid_any (h : Cm) (w : World) : Calls Tryz.prog 222 #[h.val] w fun e w' => e = .returned (.bool (decide h.Ok)) ∧ Hid (Chg [] w w') := by
 unfold Cm.val
 have C : Hid (Chg [] w (w.alloc (.cells #[.int .u64 (h.ep : Int), .int .u64 (h.sq : Int), .int .i64 h.ct, .int .u32 (h.sm : Int)] 260))) := (Chg.refl _ w).alloc _
 have N1 := Lib.hid (fun W => numbers_any h.ep h.sq W)
 have N2 := Lib.hid (fun W => within_any h.ct 1 1023 W)
 have e : decide h.Ok = (decide (numsOk h.ep h.sq) && decide (1 ≤ h.ct ∧ h.ct ≤ 1023)) := by
  rw [← Bool.decide_and]
  exact decide_eq_decide.2 Iff.rfl
 rw [e]
 clear e
 generalize decide (1 ≤ h.ct ∧ h.ct ≤ 1023) = d at *
 rcases d3 : decide (numsOk h.ep h.sq) with _ | _
 all_goals rw [d3] at N1
 all_goals clear d3
 case false =>
  go_enter Tryz.func222, Tryz.ntmps222
  go_wp2_with fail
  refine (N1.out _).mono ?_
  rintro e w1 ⟨rfl, rfl⟩
  go_wp2_with fail
  go_ret
  exact ⟨by first | rfl | simp, C⟩
 go_enter Tryz.func222, Tryz.ntmps222
 go_wp2_with fail
 refine (N1.out _).mono ?_
 rintro e w1 ⟨rfl, rfl⟩
 go_wp2_with fail
 refine (N2.out _).mono ?_
 rintro e w1 ⟨rfl, rfl⟩
 go_wp2_with fail
 go_ret
 exact ⟨by first | rfl | simp, C⟩

set_option maxHeartbeats 4000000 in
set_option maxRecDepth 100000 in
theorem checkValid_any (h : Ck) (w : World) : Calls Tryz.prog 122 #[h.val] w fun e w' => e = .returned (.bool (decide h.Ok)) ∧ Hid (Chg [] w w') := by
 unfold Ck.val
 have C : Hid (Chg [] w (w.alloc (.cells #[.int .u64 (h.ep : Int), .int .u64 (h.sq : Int), .int .i64 h.tl] 110))) := (Chg.refl _ w).alloc _
 have N1 := Lib.hid (fun W => numbers_any h.ep h.sq W)
 have N2 := Lib.hid (fun W => within_any h.tl 0 2047 W)
 have e : decide h.Ok = (decide (numsOk h.ep h.sq) && decide (0 ≤ h.tl ∧ h.tl ≤ 2047)) := by
  rw [← Bool.decide_and]
  exact decide_eq_decide.2 Iff.rfl
 rw [e]
 clear e
 generalize decide (0 ≤ h.tl ∧ h.tl ≤ 2047) = d at *
 rcases d3 : decide (numsOk h.ep h.sq) with _ | _
 all_goals rw [d3] at N1
 all_goals clear d3
 case false =>
  go_enter Tryz.func122, Tryz.ntmps122
  go_wp2_with fail
  refine (N1.out _).mono ?_
  rintro e w1 ⟨rfl, rfl⟩
  go_wp2_with fail
  go_ret
  exact ⟨by first | rfl | simp, C⟩
 go_enter Tryz.func122, Tryz.ntmps122
 go_wp2_with fail
 refine (N1.out _).mono ?_
 rintro e w1 ⟨rfl, rfl⟩
 go_wp2_with fail
 refine (N2.out _).mono ?_
 rintro e w1 ⟨rfl, rfl⟩
 go_wp2_with fail
 go_ret
 exact ⟨by first | rfl | simp, C⟩

set_option maxHeartbeats 4000000 in
set_option maxRecDepth 100000 in
theorem flagsOf_any (h : Hd) (w : World) : Calls Tryz.prog 219 #[h.val] w fun e w' => e = .returned (.int .u8 ((if h.esc then 1 else 0 : Nat) : Int)) ∧ Hid (Chg [] w w') := by
 unfold Hd.val
 have C : Hid (Chg [] w (w.alloc (.cells #[.int .u64 (h.ep : Int), .int .u64 (h.sq : Int), .int .i64 h.ix, .int .i64 h.ct, .int .i64 h.mb, .int .i64 h.rw', .bool h.esc, .int .u32 (h.sm : Int)] 256))) := (Chg.refl _ w).alloc _
 generalize h.esc = s at *
 rcases s with _ | _
 all_goals (
  go_enter Tryz.func219, Tryz.ntmps219
  go_wp2_with fail
  go_ret
  exact ⟨by first | rfl | simp, C⟩)

set_option maxHeartbeats 2000000 in
set_option maxRecDepth 100000 in
theorem begins_any (v : Value) (b m : List Nat) (S : ByteArray) (hS : strOfNums (ints m) = S) (hS4 : S.size = 4) (hmb : Bs m) (w : World) (h : Sl w v (ints b)) (hbs : Bs b) (hl : 4 ≤ b.length) (hcap : ∀ ao n c, v = .slice ao n c → n ≤ c) :
 Calls Tryz.prog 216 #[v, .string S] w fun e w' => e = .returned (.bool (begOf b m)) ∧ w = w' := by
 rcases h with ⟨h0, _⟩ | ⟨g, o, c, rfl, lb, hc⟩
 ·have := congrArg List.length h0; rw [ints_length] at this; rw [this] at hl; cases hl
 have hcp := hcap _ _ _ rfl
 rw [ints_length] at hcp hc ⊢
 have hcp4 : (4 : Int) ≤ c := by omega
 have q1 : (convert 65 9 (.slice (some ⟨g, o, none⟩) 4 c)).run Tryz.prog w = .ok (.string (strOfNums (ints (b.take 4)))) w :=
  run_convert_bytes_arg w 65 5 Tryz.underlying65 Tryz.underlying5 g o 4 c (ints (b.take 4)) (by rw [ints_length, List.length_take]; omega) (fun i hi => by
   rw [hc i (by omega), ints_get, ints_get]
   congr 3
   simp [List.getD, hi]) 9 Tryz.underlying9
 have E : ((strOfNums (ints (b.take 4))).toList == S.toList) = begOf b m := by
  unfold begOf
  by_cases hm : b.take 4 = m
  ·rw [decide_eq_true hm, hm, hS]
   exact beq_iff_eq.2 rfl
  ·rw [decide_eq_false hm]
   refine beq_eq_false_iff_ne.2 (fun k => hm (strOfNums_inj (fun y hy => hbs y (List.mem_of_mem_take hy)) hmb ?_))
   rw [k, ← hS]
 generalize strOfNums (ints (b.take 4)) = T at *
 generalize begOf b m = r at *
 have hS4' : (S.size : Int) = 4 := by omega
 clear hS hS4 hmb hbs hc hcap lb hcp
 go_enter Tryz.func216, Tryz.ntmps216
 go_wp2_with fail
 go_ret
 exact ⟨by first | rfl | simp, rfl⟩

theorem magic_str : strOfNums (ints magicB) = ⟨#[83, 80, 74, 76]⟩ := by kernel_rfl

theorem magic_bs : Bs magicB := by unfold Bs magicB; decide

set_option maxHeartbeats 2000000 in
set_option maxRecDepth 100000 in
theorem kind_any (v : Value) (b : List Nat) (w : World) (h : Sl w v (ints b)) (hbs : Bs b) (hcap : ∀ ao n c, v = .slice ao n c → n ≤ c) :
 Calls Tryz.prog 229 #[v] w fun e w' => e = .returned (.int .u8 (kindOf b : Nat)) ∧ w = w' := by
 by_cases hl : b.length = 128
 case neg =>
  have d : kindOf b = 0 := by unfold kindOf; rw [if_neg (fun k => hl k.1)]
  rw [d]
  obtain ⟨ao, c, rfl⟩ := h.slice
  rw [ints_length]
  have d2 : ¬ (b.length : Int) = 128 := by omega
  have d3 : ((b.length : Int) != 128) = true := by simpa using d2
  clear h d
  go_enter Tryz.func229, Tryz.ntmps229
  go_wp2_with fail
  go_ret
  exact ⟨by first | rfl | simp, rfl⟩
 have B := Lib.hid (begins_any v b magicB ⟨#[83, 80, 74, 76]⟩ magic_str rfl magic_bs w h hbs (by omega) hcap)
 rcases h with ⟨h0, _⟩ | ⟨g, o, c, rfl, lb, hc⟩
 ·have := congrArg List.length h0; rw [ints_length, hl] at this; cases this
 have e4 : w.cell? ⟨g, o + 4, none⟩ = some (.int .u8 ((b.getD 4 0 : Nat) : Int)) := by rw [hc 4 (by rw [ints_length]; omega), ints_get]
 rw [kindOf_eq hl]
 rw [ints_length, hl] at B ⊢
 clear hcap hc hbs
 generalize b.getD 4 0 = x at *
 generalize begOf b magicB = m at *
 have hx0 : (0 : Int) ≤ x := Int.natCast_nonneg _
 rcases m with _ | _
 case false =>
  rw [if_neg (fun k => by cases k.1)]
  go_enter Tryz.func229, Tryz.ntmps229
  go_wp2_with fail
  refine B.out.mono ?_
  rintro e w1 ⟨rfl, rfl⟩
  go_wp2_with fail
  go_ret
  exact ⟨by first | rfl | simp, rfl⟩
 by_cases k1 : x = 1
 ·subst k1
  rw [if_pos (by decide)]
  go_enter Tryz.func229, Tryz.ntmps229
  go_wp2_with fail
  refine B.out.mono ?_
  rintro e w1 ⟨rfl, rfl⟩
  go_wp2_with fail
  go_ret
  exact ⟨by first | rfl | simp, rfl⟩
 by_cases k2 : x = 2
 ·subst k2
  rw [if_pos (by decide)]
  go_enter Tryz.func229, Tryz.ntmps229
  go_wp2_with fail
  refine B.out.mono ?_
  rintro e w1 ⟨rfl, rfl⟩
  go_wp2_with fail
  go_ret
  exact ⟨by first | rfl | simp, rfl⟩
 by_cases k3 : x = 3
 ·subst k3
  rw [if_pos (by decide)]
  go_enter Tryz.func229, Tryz.ntmps229
  go_wp2_with fail
  refine B.out.mono ?_
  rintro e w1 ⟨rfl, rfl⟩
  go_wp2_with fail
  go_ret
  exact ⟨by first | rfl | simp, rfl⟩
 rw [if_neg (fun k => by omega)]
 have d1 : ((x : Int) == 1) = false := by simpa using show ¬ (x : Int) = 1 by omega
 have d2 : ((x : Int) == 2) = false := by simpa using show ¬ (x : Int) = 2 by omega
 have d3 : ((x : Int) == 3) = false := by simpa using show ¬ (x : Int) = 3 by omega
 clear k1 k2 k3
 go_enter Tryz.func229, Tryz.ntmps229
 go_wp2_with fail
 refine B.out.mono ?_
 rintro e w1 ⟨rfl, rfl⟩
 go_wp2_with fail
 go_ret
 exact ⟨by first | rfl | simp, rfl⟩

end Go.Proofs.YtkafkdlgflkjgaaGreat
