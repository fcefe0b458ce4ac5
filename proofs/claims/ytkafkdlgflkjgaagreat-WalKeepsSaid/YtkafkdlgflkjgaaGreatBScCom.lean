/-
  The program's scan: a batch's commit is read. By an AI agent.
-/
import Derived.Test.YtkafkdlgflkjgaaGreatBRcPDecs
import Derived.Test.YtkafkdlgflkjgaaGreatBScSpec
import Derived.Laws.StructEq
import Derived.Deep.RegionHeld3
import Derived.Test.YtkafkdlgflkjgaaGreatBG
import Derived.Test.YtkafkdlgflkjgaaGreatBGOwnMem
import Derived.Test.YtkafkdlgflkjgaaGreatBRcEsc
import Derived.Test.YtkafkdlgflkjgaaGreatBGPv
import Derived.Test.YtkafkdlgflkjgaaGreatBGAppend
import Derived.RangeFuncNested
import Derived.RangeFuncBound
import Derived.RangeFuncCalls
import Derived.RangeFuncLeaves
import Derived.Shelf.Abstract
import Derived.Shelf.RegionOpen
import Derived.OwnWalkIn
import Derived.TacticsInMore
import Derived.LoopNIn
import Derived.LoopIn
namespace Go.Proofs.YtkafkdlgflkjgaaGreat
open Crc Go.RowKit Go.Shelf Sc

/-- The cells of a batch that is read. -/
def btc (ep sq : Nat) (ct : Int) (sm rd : Nat) (h : Hd) (pv : Value) : List Value := [.int .u64 (ep : Int), .int .u64 (sq : Int), .int .i64 ct, .int .u32 (sm : Int), .int .i64 (rd : Int), .int .u64 (h.ep : Int), .int .u64 (h.sq : Int), .int .i64 h.ix, .int .i64 h.ct, .int .i64 h.mb, .int .i64 h.rw', .bool h.esc, .int .u32 (h.sm : Int), pv]

set_option maxHeartbeats 1000000 in
theorem neq_commit (x0 x1 x2 x3 y0 y1 y2 y3 : Int) (w : World) : (binOp .neq 260 (.agg #[.int .u64 x0, .int .u64 x1, .int .i64 x2, .int .u32 x3]) (.agg #[.int .u64 y0, .int .u64 y1, .int .i64 y2, .int .u32 y3])).run Tryz.prog w = .ok (.bool (!decide (x0 = y0 ∧ x1 = y1 ∧ x2 = y2 ∧ x3 = y3))) w := by
 by_cases h0 : x0 = y0
 case neg =>
  have e0 : (x0 == y0) = false := by simpa using h0
  rw [decide_eq_false (fun k => h0 k.1)]
  go_simp
 subst h0
 by_cases h1 : x1 = y1
 case neg =>
  have e1 : (x1 == y1) = false := by simpa using h1
  rw [decide_eq_false (fun k => h1 k.2.1)]
  go_simp
 subst h1
 by_cases h2 : x2 = y2
 case neg =>
  have e2 : (x2 == y2) = false := by simpa using h2
  rw [decide_eq_false (fun k => h2 k.2.2.1)]
  go_simp
 subst h2
 by_cases h3 : x3 = y3
 case neg =>
  have e3 : (x3 == y3) = false := by simpa using h3
  rw [decide_eq_false (fun k => h3 k.2.2.2)]
  go_simp
 subst h3
 rw [decide_eq_true ⟨rfl, rfl, rfl, rfl⟩]
 go_simp

def CmKey (ep sq : Nat) (ct : Int) (sm : Nat) (s : List Nat) : Prop := Cm.derr s = 0 ∧ (Cm.of s).ep = ep ∧ (Cm.of s).sq = sq ∧ (Cm.of s).ct = ct ∧ (Cm.of s).sm = sm

set_option maxHeartbeats 2000000 in
set_option maxRecDepth 100000 in
theorem takeCommit_any (g ep sq sm rd : Nat) (ct : Int) (hd : Hd) (pv v : Value) (s : List Nat) (w : World) (hb : Blk w g 280 (btc ep sq ct sm rd hd pv)) (h : Sl w v (ints s)) (hbs : Bs s) (hcap : ∀ ao n c, v = .slice ao n c → n ≤ c) :
 Calls Tryz.prog 239 #[.pointer (some ⟨g, 0, none⟩), v] w fun e w' => ((CmKey ep sq ct sm s ∧ e = .returned (.int .u8 1)) ∨ (¬ CmKey ep sq ct sm s ∧ e = .returned (.int .u8 2))) ∧ Hid (Chg [] w w') := by
 have DC := Lib.hid (decCm_any v s w h hbs hcap)
 have HI := Cm.derr_in s
 have HB := Lib.hid hb
 have KE : Hid (CmKey ep sq ct sm s ↔ Cm.derr s = 0 ∧ (Cm.of s).ep = ep ∧ (Cm.of s).sq = sq ∧ (Cm.of s).ct = ct ∧ (Cm.of s).sm = sm) := Iff.rfl
 have H2 : Hid (Cm.derr s ≠ 0 → (Cm.dval s).val = .agg #[.int .u64 0, .int .u64 0, .int .i64 0, .int .u32 0]) := fun h0 => by unfold Cm.dval; rw [if_neg h0]; rfl
 obtain ⟨x, hx⟩ : ∃ x, x = Cm.of s := ⟨_, rfl⟩
 have H1 : Hid (Cm.derr s = 0 → (Cm.dval s).val = .agg #[.int .u64 (x.ep : Int), .int .u64 (x.sq : Int), .int .i64 x.ct, .int .u32 (x.sm : Int)]) := fun h0 => by unfold Cm.dval; rw [if_pos h0, hx]; rfl
 rw [← hx] at KE
 clear hx hcap hbs h hb
 generalize CmKey ep sq ct sm s = K at *
 generalize Cm.derr s = er at *
 generalize (Cm.dval s).val = rv at *
 by_cases h0 : er = 0
 ·subst h0
  obtain rfl := H1.out rfl
  clear H1 H2 HI
  obtain ⟨x0, x1, x2, x3⟩ := x
  go_enter Tryz.func239, Tryz.ntmps239
  go_wp2_with (go_at_call 258; refine DC.out.mono ?_; rintro e w1 ⟨rfl, C1⟩)
  have B0 := (HB.out.chg C1.out (by simp)).alloc (.cells #[.int .u64 (x0 : Int), .int .u64 (x1 : Int), .int .i64 x2, .int .u32 (x3 : Int)] 260)
  have B1 := Blk.made w1 [.int .u64 (x0 : Int), .int .u64 (x1 : Int), .int .i64 x2, .int .u32 (x3 : Int)] 260
  have C2 := Lib.hid (C1.out.alloc (.cells #[.int .u64 (x0 : Int), .int .u64 (x1 : Int), .int .i64 x2, .int .u32 (x3 : Int)] 260))
  obtain ⟨W, hW⟩ : ∃ W, W = w1.alloc (.cells #[.int .u64 (x0 : Int), .int .u64 (x1 : Int), .int .i64 x2, .int .u32 (x3 : Int)] 260) := ⟨_, rfl⟩
  have hsz : w1.heap.size < W.heap.size := by rw [hW]; simp
  rw [← hW] at B0 B1 C2 ⊢
  replace hW := Lib.hid hW
  have c0 := B0.cell (j := 0) rfl
  have c1 := B0.cell (j := 1) rfl
  have c2 := B0.cell (j := 2) rfl
  have c3 := B0.cell (j := 3) rfl
  have d0 := B1.cell (j := 0) rfl
  have d1 := B1.cell (j := 1) rfl
  have d2 := B1.cell (j := 2) rfl
  have d3 := B1.cell (j := 3) rfl
  have ne := fun W' => neq_commit (x0 : Int) (x1 : Int) x2 (x3 : Int) (ep : Int) (sq : Int) ct (sm : Int) W'
  have KF : Hid (decide ((x0 : Int) = ep ∧ (x1 : Int) = sq ∧ x2 = ct ∧ (x3 : Int) = sm) = true ↔ K) := by
   show _ ↔ _
   rw [decide_eq_true_iff, KE.out]
   exact ⟨fun ⟨a, b, c, d⟩ => ⟨(by trivial), Int.ofNat.inj a, Int.ofNat.inj b, c, Int.ofNat.inj d⟩, fun ⟨_, a, b, c, d⟩ => ⟨congrArg _ a, congrArg _ b, c, congrArg _ d⟩⟩
  generalize decide ((x0 : Int) = ep ∧ (x1 : Int) = sq ∧ x2 = ct ∧ (x3 : Int) = sm) = bb at *
  clear B0 B1 HB KE DC
  go_quiet (fail)
  cases bb
  ·go_wp2_with fail
   go_ret
   exact ⟨.inr ⟨fun k => (by have := KF.out.2 k; cases this), rfl⟩, C2.out.drewN _⟩
  ·go_wp2_with fail
   go_ret
   exact ⟨.inl ⟨KF.out.1 (by trivial), rfl⟩, C2.out.drewN _⟩
 ·obtain rfl := H2.out h0
  have hne : (er != 0) = true := by simpa using h0
  clear H1 H2
  go_enter Tryz.func239, Tryz.ntmps239
  go_wp2_with (go_at_call 258; refine DC.out.mono ?_; rintro e w1 ⟨rfl, C1⟩)
  go_quiet (fail)
  go_wp2_with fail
  go_ret
  exact ⟨.inr ⟨fun k => h0 (KE.out.1 k).1, rfl⟩, (C1.out.alloc _).drewN _⟩


/-- How many the commit should tell. -/
def ctNew (n : Nat) (c ct : Int) : Int := if n = 0 then c else ct

def HdKey (ep sq : Nat) (ct : Int) (n : Nat) (s : List Nat) : Prop := Hd.derr s = 0 ∧ (Hd.of s).ep = ep ∧ (Hd.of s).sq = sq ∧ (Hd.of s).ct = ctNew n (Hd.of s).ct ct ∧ (Hd.of s).ix = n

set_option maxHeartbeats 8000000 in
set_option maxRecDepth 100000 in
theorem takeHeader_any (g ep sq sm rd n : Nat) (ct : Int) (hd : Hd) (po : Option Addr) (pc : Nat) (v : Value) (s : List Nat) (w : World) (hsm : sm < 4294967296) (hb : Blk w g 280 (btc ep sq ct sm rd hd (.slice po n pc))) (h : Sl w v (ints s)) (hbs : Bs s) (hl : s.length ≤ 1000000) (hvg : ∀ k, v.ownBlock = some k → k ≠ g) (hcap : ∀ ao n c, v = .slice ao n c → n ≤ c) :
 Calls Tryz.prog 240 #[.pointer (some ⟨g, 0, none⟩), v] w fun e w' => ((HdKey ep sq ct n s ∧ e = .returned (.int .u8 0) ∧ Hid (Blk w' g 280 (btc ep sq (ctNew n (Hd.of s).ct ct) (more sm s) rd (Hd.of s) (.slice po n pc)))) ∨ (¬ HdKey ep sq ct n s ∧ e = .returned (.int .u8 2))) ∧ Hid (Chg [g] w w') := by
 have DC := Lib.hid (decHd_any v s w h hbs hcap)
 have MO : Hid (∀ W', Chg [g] w W' → Calls Tryz.prog 162 #[.int .u32 (sm : Int), v] W' fun e w' => e = .returned (.int .u32 (more sm s : Nat)) ∧ Hid (Chg [] W' w')) := fun W' c => by
  have m := more_any sm v (ints s) W' hsm (h.chg c (fun k hk hm => hvg k hk (List.mem_singleton.1 hm))) (ints_by hbs) (by rw [ints_length]; omega)
  rw [nats_ints] at m
  exact m
 have HI := Hd.derr_in s
 have HB := Lib.hid hb
 have KE : Hid (HdKey ep sq ct n s ↔ Hd.derr s = 0 ∧ (Hd.of s).ep = ep ∧ (Hd.of s).sq = sq ∧ (Hd.of s).ct = ctNew n (Hd.of s).ct ct ∧ (Hd.of s).ix = n) := Iff.rfl
 have H2 : Hid (Hd.derr s ≠ 0 → (Hd.dval s).val = .agg #[.int .u64 0, .int .u64 0, .int .i64 0, .int .i64 0, .int .i64 0, .int .i64 0, .bool false, .int .u32 0]) := fun h0 => by unfold Hd.dval; rw [if_neg h0]; rfl
 obtain ⟨x, hx⟩ : ∃ x, x = Hd.of s := ⟨_, rfl⟩
 have H1 : Hid (Hd.derr s = 0 → (Hd.dval s).val = .agg #[.int .u64 (x.ep : Int), .int .u64 (x.sq : Int), .int .i64 x.ix, .int .i64 x.ct, .int .i64 x.mb, .int .i64 x.rw', .bool x.esc, .int .u32 (x.sm : Int)]) := fun h0 => by unfold Hd.dval; rw [if_pos h0, hx]; rfl
 rw [← hx] at KE ⊢
 clear hx hcap hbs h hb hvg hsm hl
 generalize HdKey ep sq ct n s = K at *
 generalize Hd.derr s = er at *
 generalize (Hd.dval s).val = rv at *
 obtain ⟨M, hM⟩ : ∃ M, M = more sm s := ⟨_, rfl⟩
 rw [← hM] at MO ⊢
 clear hM
 by_cases h0 : er = 0
 case neg =>
  obtain rfl := H2.out h0
  have hne : (er != 0) = true := by simpa using h0
  clear H1 H2
  go_enter Tryz.func240, Tryz.ntmps240
  go_wp2_with (go_at_call 259; refine DC.out.mono ?_; rintro e w1 ⟨rfl, C1⟩)
  go_ret
  exact ⟨.inr ⟨fun k => h0 (KE.out.1 k).1, rfl⟩, (C1.out.alloc _).mono (by simp)⟩
 subst h0
 obtain rfl := H1.out rfl
 clear H1 H2 HI
 obtain ⟨x0, x1, x2, x3, x4, x5, x6, x7⟩ := x
 dsimp only at KE ⊢
 by_cases hn0 : n = 0
 ·subst hn0
  go_enter Tryz.func240, Tryz.ntmps240
  go_wp2_with (go_at_call 259; refine DC.out.mono ?_; rintro e w1 ⟨rfl, C1⟩; have B0 := (HB.out.chg C1.out (by simp)).alloc (.cells #[.int .u64 (x0 : Int), .int .u64 (x1 : Int), .int .i64 x2, .int .i64 x3, .int .i64 x4, .int .i64 x5, .bool x6, .int .u32 (x7 : Int)] 256); have B1 := Blk.made w1 [.int .u64 (x0 : Int), .int .u64 (x1 : Int), .int .i64 x2, .int .i64 x3, .int .i64 x4, .int .i64 x5, .bool x6, .int .u32 (x7 : Int)] 256; have C2 := Lib.hid ((C1.out.alloc (.cells #[.int .u64 (x0 : Int), .int .u64 (x1 : Int), .int .i64 x2, .int .i64 x3, .int .i64 x4, .int .i64 x5, .bool x6, .int .u32 (x7 : Int)] 256)).mono (t := [g]) (by simp)); have c13 := B0.cell (j := 13) rfl; have d3 := B1.cell (j := 3) rfl; have c2 := B0.cell (j := 2) rfl; have f2 := B0.free 2)
  have G1 : Hid (g < w1.heap.size) := (HB.out.chg C1.out (by simp)).lt
  have CW := Lib.hid (C2.out.setCell (p := ⟨g, 2, none⟩) (.inl (by simp)) (.int .i64 x3))
  replace B0 := Lib.hid (B0.set 2 (.int .i64 x3))
  replace B1 := Lib.hid (B1.other (a := ⟨g, 2, none⟩) (by show g ≠ w1.heap.size; have := G1.out; omega) (.int .i64 x3))
  obtain ⟨W, hW⟩ : ∃ W, W = (w1.alloc (.cells #[.int .u64 (x0 : Int), .int .u64 (x1 : Int), .int .i64 x2, .int .i64 x3, .int .i64 x4, .int .i64 x5, .bool x6, .int .u32 (x7 : Int)] 256)).setCell ⟨g, 2, none⟩ (.int .i64 x3) := ⟨_, rfl⟩
  rw [← hW] at B0 B1 CW ⊢
  have L1 : Hid (w1.heap.size < W.heap.size) := B1.out.lt
  clear hW C2 c13 d3 c2 f2 C1 HB DC G1
  generalize w1.heap.size = hh at *
  have c0 := B0.out.cell (j := 0) rfl
  have c1 := B0.out.cell (j := 1) rfl
  have c2 := B0.out.cell (j := 2) rfl
  have c3 := B0.out.cell (j := 3) rfl
  have c13 := B0.out.cell (j := 13) rfl
  have d0 := B1.out.cell (j := 0) rfl
  have d1 := B1.out.cell (j := 1) rfl
  have d2 := B1.out.cell (j := 2) rfl
  have d3 := B1.out.cell (j := 3) rfl
  have d4 := B1.out.cell (j := 4) rfl
  have d5 := B1.out.cell (j := 5) rfl
  have d6 := B1.out.cell (j := 6) rfl
  have d7 := B1.out.cell (j := 7) rfl
  by_cases q0 : (x0 : Int) = (ep : Int)
  case neg =>
   have t0 : ((x0 : Int) != (ep : Int)) = true := by simpa using q0
   have NK : Hid (¬ K) := fun k => q0 (congrArg (fun z : Nat => (z : Int)) (KE.out.1 k).2.1)
   clear KE q0
   go_quiet (fail)
   go_wp2_with fail
   go_ret
   exact ⟨.inr ⟨NK.out, rfl⟩, CW.out.drewN _⟩
  obtain rfl : x0 = ep := Int.ofNat.inj q0
  clear q0
  by_cases q1 : (x1 : Int) = (sq : Int)
  case neg =>
   have t1 : ((x1 : Int) != (sq : Int)) = true := by simpa using q1
   have NK : Hid (¬ K) := fun k => q1 (congrArg (fun z : Nat => (z : Int)) (KE.out.1 k).2.2.1)
   clear KE q1
   go_quiet (fail)
   go_wp2_with fail
   go_ret
   exact ⟨.inr ⟨NK.out, rfl⟩, CW.out.drewN _⟩
  obtain rfl : x1 = sq := Int.ofNat.inj q1
  clear q1
  by_cases q2 : (x2 : Int) = (0 : Int)
  case neg =>
   have t2 : ((x2 : Int) != (0 : Int)) = true := by simpa using q2
   have NK : Hid (¬ K) := fun k => q2 ((KE.out.1 k).2.2.2.2)
   clear KE q2
   go_quiet (fail)
   go_wp2_with fail
   go_ret
   exact ⟨.inr ⟨NK.out, rfl⟩, CW.out.drewN _⟩
  subst q2
  have YK : Hid K := KE.out.2 ⟨(by trivial), rfl, rfl, by unfold ctNew; rw [if_pos (by rfl)], by rfl⟩
  clear KE
  go_quiet (fail)
  clear c0 c1 c2 c3 c13 d0 d1 d2 d3 d4 d5 d6 d7
  replace B0 := Lib.hid (B0.out.drewN nq)
  replace B1 := Lib.hid (B1.out.drewN nq)
  replace CW := Lib.hid (CW.out.drewN nq)
  generalize W.drewN nq = W3 at *
  have d0 := B1.out.cell (j := 0) rfl
  have d1 := B1.out.cell (j := 1) rfl
  have d2 := B1.out.cell (j := 2) rfl
  have d3 := B1.out.cell (j := 3) rfl
  have d4 := B1.out.cell (j := 4) rfl
  have d5 := B1.out.cell (j := 5) rfl
  have d6 := B1.out.cell (j := 6) rfl
  have d7 := B1.out.cell (j := 7) rfl
  have SZ : Hid ((Tryz.prog.info? 256).map (·.size) = some (List.length ([.int .u64 (x0 : Int), .int .u64 (x1 : Int), .int .i64 0, .int .i64 x3, .int .i64 x4, .int .i64 x5, .bool x6, .int .u32 (x7 : Int)] : List Value))) := size_Hd
  have LL : Hid (5 + List.length ([.int .u64 (x0 : Int), .int .u64 (x1 : Int), .int .i64 0, .int .i64 x3, .int .i64 x4, .int .i64 x5, .bool x6, .int .u32 (x7 : Int)] : List Value) ≤ (btc x0 x1 x3 sm rd hd (.slice po 0 pc)).length) := (by show _ ≤ _; simp [btc])
  have ON : Hid (∀ u ∈ ([.int .u64 (x0 : Int), .int .u64 (x1 : Int), .int .i64 0, .int .i64 x3, .int .i64 x4, .int .i64 x5, .bool x6, .int .u32 (x7 : Int)] : List Value), u.oneCell' = true) := (by show ∀ u ∈ _, _; simp [Value.oneCell'])
  go_wp2_with (first
   | ((refine wpList_store_blk rfl 256 (.tmp 67) (.tmp 65) rfl g 5 280 _ [.int .u64 (x0 : Int), .int .u64 (x1 : Int), .int .i64 0, .int .i64 x3, .int .i64 x4, .int .i64 x5, .bool x6, .int .u32 (x7 : Int)] rfl rfl B0.out LL.out SZ.out ON.out ?_); intro w3 B3 C3; have MC := Lib.hid (CW.out.trans C3.out); clear C3 B0 B1 CW d0 d1 d2 d3 d4 d5 d6 d7; have k3 := B3.out.cell (j := 3) rfl)
   | (go_at_call 162; refine (MO.out _ MC.out).mono ?_; rintro e w4 ⟨rfl, C4⟩; have B4 := Lib.hid (B3.out.chg C4.out (by simp)); clear k3; have k4 := B4.out.cell (j := 3) rfl; have g4 := B4.out.free 3))
  go_ret
  exact ⟨.inl ⟨YK.out, rfl, (by unfold ctNew; rw [if_pos (by rfl)]; exact B4.out.set 3 _)⟩, (MC.out.trans (C4.out.mono (by simp))).setCell (.inl (by simp)) _⟩
 ·have hn := Lib.hid hn0
  have hn1 : ((n : Int) == 0) = false := by simpa using hn0
  clear hn0
  go_enter Tryz.func240, Tryz.ntmps240
  go_wp2_with (go_at_call 259; refine DC.out.mono ?_; rintro e w1 ⟨rfl, C1⟩; have B0 := (HB.out.chg C1.out (by simp)).alloc (.cells #[.int .u64 (x0 : Int), .int .u64 (x1 : Int), .int .i64 x2, .int .i64 x3, .int .i64 x4, .int .i64 x5, .bool x6, .int .u32 (x7 : Int)] 256); have B1 := Blk.made w1 [.int .u64 (x0 : Int), .int .u64 (x1 : Int), .int .i64 x2, .int .i64 x3, .int .i64 x4, .int .i64 x5, .bool x6, .int .u32 (x7 : Int)] 256; have C2 := Lib.hid ((C1.out.alloc (.cells #[.int .u64 (x0 : Int), .int .u64 (x1 : Int), .int .i64 x2, .int .i64 x3, .int .i64 x4, .int .i64 x5, .bool x6, .int .u32 (x7 : Int)] 256)).mono (t := [g]) (by simp)); have c13 := B0.cell (j := 13) rfl)
  have CW := C2
  replace B0 := Lib.hid B0
  replace B1 := Lib.hid B1
  obtain ⟨W, hW⟩ : ∃ W, W = w1.alloc (.cells #[.int .u64 (x0 : Int), .int .u64 (x1 : Int), .int .i64 x2, .int .i64 x3, .int .i64 x4, .int .i64 x5, .bool x6, .int .u32 (x7 : Int)] 256) := ⟨_, rfl⟩
  rw [← hW] at B0 B1 CW ⊢
  have L1 : Hid (w1.heap.size < W.heap.size) := B1.out.lt
  clear hW C2 c13 C1 HB DC hn1
  generalize w1.heap.size = hh at *
  have c0 := B0.out.cell (j := 0) rfl
  have c1 := B0.out.cell (j := 1) rfl
  have c2 := B0.out.cell (j := 2) rfl
  have c3 := B0.out.cell (j := 3) rfl
  have c13 := B0.out.cell (j := 13) rfl
  have d0 := B1.out.cell (j := 0) rfl
  have d1 := B1.out.cell (j := 1) rfl
  have d2 := B1.out.cell (j := 2) rfl
  have d3 := B1.out.cell (j := 3) rfl
  have d4 := B1.out.cell (j := 4) rfl
  have d5 := B1.out.cell (j := 5) rfl
  have d6 := B1.out.cell (j := 6) rfl
  have d7 := B1.out.cell (j := 7) rfl
  by_cases q0 : (x0 : Int) = (ep : Int)
  case neg =>
   have t0 : ((x0 : Int) != (ep : Int)) = true := by simpa using q0
   have NK : Hid (¬ K) := fun k => q0 (congrArg (fun z : Nat => (z : Int)) (KE.out.1 k).2.1)
   clear KE q0
   go_quiet (fail)
   go_wp2_with fail
   go_ret
   exact ⟨.inr ⟨NK.out, rfl⟩, CW.out.drewN _⟩
  obtain rfl : x0 = ep := Int.ofNat.inj q0
  clear q0
  by_cases q1 : (x1 : Int) = (sq : Int)
  case neg =>
   have t1 : ((x1 : Int) != (sq : Int)) = true := by simpa using q1
   have NK : Hid (¬ K) := fun k => q1 (congrArg (fun z : Nat => (z : Int)) (KE.out.1 k).2.2.1)
   clear KE q1
   go_quiet (fail)
   go_wp2_with fail
   go_ret
   exact ⟨.inr ⟨NK.out, rfl⟩, CW.out.drewN _⟩
  obtain rfl : x1 = sq := Int.ofNat.inj q1
  clear q1
  by_cases q2 : (x3 : Int) = (ct : Int)
  case neg =>
   have t2 : ((x3 : Int) != (ct : Int)) = true := by simpa using q2
   have NK : Hid (¬ K) := fun k => q2 (by have z := (KE.out.1 k).2.2.2.1; unfold ctNew at z; rw [if_neg hn.out] at z; exact z)
   clear KE q2
   go_quiet (fail)
   go_wp2_with fail
   go_ret
   exact ⟨.inr ⟨NK.out, rfl⟩, CW.out.drewN _⟩
  subst q2
  by_cases q3 : (x2 : Int) = (n : Int)
  case neg =>
   have t3 : ((x2 : Int) != (n : Int)) = true := by simpa using q3
   have NK : Hid (¬ K) := fun k => q3 ((KE.out.1 k).2.2.2.2)
   clear KE q3
   go_quiet (fail)
   go_wp2_with fail
   go_ret
   exact ⟨.inr ⟨NK.out, rfl⟩, CW.out.drewN _⟩
  subst q3
  have YK : Hid K := KE.out.2 ⟨(by trivial), rfl, rfl, by unfold ctNew; rw [if_neg hn.out], rfl⟩
  clear KE
  go_quiet (fail)
  clear c0 c1 c2 c3 c13 d0 d1 d2 d3 d4 d5 d6 d7
  replace B0 := Lib.hid (B0.out.drewN nq)
  replace B1 := Lib.hid (B1.out.drewN nq)
  replace CW := Lib.hid (CW.out.drewN nq)
  generalize W.drewN nq = W3 at *
  have d0 := B1.out.cell (j := 0) rfl
  have d1 := B1.out.cell (j := 1) rfl
  have d2 := B1.out.cell (j := 2) rfl
  have d3 := B1.out.cell (j := 3) rfl
  have d4 := B1.out.cell (j := 4) rfl
  have d5 := B1.out.cell (j := 5) rfl
  have d6 := B1.out.cell (j := 6) rfl
  have d7 := B1.out.cell (j := 7) rfl
  have SZ : Hid ((Tryz.prog.info? 256).map (·.size) = some (List.length ([.int .u64 (x0 : Int), .int .u64 (x1 : Int), .int .i64 (n : Nat), .int .i64 x3, .int .i64 x4, .int .i64 x5, .bool x6, .int .u32 (x7 : Int)] : List Value))) := size_Hd
  have LL : Hid (5 + List.length ([.int .u64 (x0 : Int), .int .u64 (x1 : Int), .int .i64 (n : Nat), .int .i64 x3, .int .i64 x4, .int .i64 x5, .bool x6, .int .u32 (x7 : Int)] : List Value) ≤ (btc x0 x1 x3 sm rd hd (.slice po n pc)).length) := (by show _ ≤ _; simp [btc])
  have ON : Hid (∀ u ∈ ([.int .u64 (x0 : Int), .int .u64 (x1 : Int), .int .i64 (n : Nat), .int .i64 x3, .int .i64 x4, .int .i64 x5, .bool x6, .int .u32 (x7 : Int)] : List Value), u.oneCell' = true) := (by show ∀ u ∈ _, _; simp [Value.oneCell'])
  go_wp2_with (first
   | ((refine wpList_store_blk rfl 256 (.tmp 67) (.tmp 65) rfl g 5 280 _ [.int .u64 (x0 : Int), .int .u64 (x1 : Int), .int .i64 (n : Nat), .int .i64 x3, .int .i64 x4, .int .i64 x5, .bool x6, .int .u32 (x7 : Int)] rfl rfl B0.out LL.out SZ.out ON.out ?_); intro w3 B3 C3; have MC := Lib.hid (CW.out.trans C3.out); clear C3 B0 B1 CW d0 d1 d2 d3 d4 d5 d6 d7; have k3 := B3.out.cell (j := 3) rfl)
   | (go_at_call 162; refine (MO.out _ MC.out).mono ?_; rintro e w4 ⟨rfl, C4⟩; have B4 := Lib.hid (B3.out.chg C4.out (by simp)); clear k3; have k4 := B4.out.cell (j := 3) rfl; have g4 := B4.out.free 3))
  go_ret
  exact ⟨.inl ⟨YK.out, rfl, (by unfold ctNew; rw [if_neg hn.out]; exact B4.out.set 3 _)⟩, (MC.out.trans (C4.out.mono (by simp))).setCell (.inl (by simp)) _⟩


/-- A patch more, and the block that names the list. -/
theorem take_end {w0 w1 wn : World} {ts : List Thing} {e8 e : TypeId} {g j n : Nat} {cs : List Value} {lv bv lvn : Value} {L : List Pv} {d : Pd} (h : Side w0 w1 (ownT e8 bv (ub d.bs) :: blkT g e cs :: listT lv L :: dataT L :: ts))
 (c : Chg lv.ownBlock.toList w1 wn) (hn : n = L.length + 1) (ol : wn.ownsRow 0 105 3 lvn n ((L.map pvSlot).flatten ++ [.int .i64 (d.m : Int), .int .i64 (d.r : Int), bv])) (nb : ∀ k, lvn.ownBlock = some k → lv.ownBlock = some k ∨ w1.heap.size ≤ k) :
 Side w0 (wn.setCell ⟨g, j, none⟩ lvn) (blkT g e (cs.set j lvn) :: listT lvn (L ++ [(d, bv)]) :: dataT (L ++ [(d, bv)]) :: ts) := by
 have h1 : Side w0 w1 (listT lv L :: ownT e8 bv (ub d.bs) :: blkT g e cs :: dataT L :: ts) := h.front 2
 have h2 := more_list h1 c hn ol nb
 have hb : Blk wn g e cs := h2.get 2 rfl
 have h3 : Side w0 (wn.setCell ⟨g, j, none⟩ lvn) (listT lvn (L ++ [(d, bv)]) :: ownT e8 bv (ub d.bs) :: blkT g e (cs.set j lvn) :: dataT L :: ts) :=
  h2.turnAt (b := blkT g e (cs.set j lvn)) 2 rfl (s := [g]) ((Chg.refl [g] wn).setCell (p := ⟨g, j, none⟩) (.inl (by simp)) lvn) (fun k hk => .inl hk) (hb.set j lvn) (fun k hk => .inl hk)
 have h4 : Side w0 (wn.setCell ⟨g, j, none⟩ lvn) (ownT e8 bv (ub d.bs) :: dataT L :: listT lvn (L ++ [(d, bv)]) :: blkT g e (cs.set j lvn) :: ts) := (h3.front 3).front 2
 have h5 : Side w0 (wn.setCell ⟨g, j, none⟩ lvn) (dataT (L ++ [(d, bv)]) :: listT lvn (L ++ [(d, bv)]) :: blkT g e (cs.set j lvn) :: ts) := by
  unfold dataT
  rw [List.map_append]
  exact h4.pool
 exact (h5.front 1).front 2

theorem info_patch1 : (Tryz.prog.info? 105).map (fun i => (i.zero, i.size, i.bytes)) = some (some (.agg #[.int .i64 0, .int .i64 0, .slice none 0 0]), 3, 40) := by kernel_rfl

theorem three_new1 (w : World) (x y z : Value) (t : TypeId) : ∀ j u, [x, y, z][j]? = some u → (w.alloc (.cells #[x, y, z] t)).cell? ((⟨w.heap.size, 0, none⟩ : Addr).add j) = some u := by
 intro j u hj
 have := (Blk.made w [x, y, z] t).cell hj
 rw [Addr.add_lit]
 simpa using this

def DtKey (hd : Hd) (s : List Nat) : Prop := uneE s hd.esc = 0 ∧ sum s = hd.sm

set_option maxHeartbeats 8000000 in
set_option maxRecDepth 100000 in
theorem takeData_any (w0 w : World) (ts : List Thing) (g ep sq sm rd : Nat) (ct : Int) (hd : Hd) (pv v : Value) (A : List Pv) (s : List Nat) (hA : A.length ≤ 100000) (hm : 0 ≤ hd.mb) (hr : 0 ≤ hd.rw')
 (H : Side w0 w (blkT g 280 (btc ep sq ct sm rd hd pv) :: listT pv A :: dataT A :: ts)) (hsl : ∀ w', Chg [] w0 w' → Sl w' v (ints s)) (hbs : Bs s) (hl : s.length ≤ 1000000) (hcap : ∀ ao n c, v = .slice ao n c → n ≤ c) :
 Calls Tryz.prog 238 #[.pointer (some ⟨g, 0, none⟩), v] w fun e w' =>
  (DtKey hd s ∧ e = .returned (.int .u8 0) ∧ (∃ pv' dv, Hid (Side w0 w' (blkT g 280 (btc ep sq ct sm rd hd pv') :: listT pv' (A ++ [(⟨hd.mb.toNat, hd.rw'.toNat, uneV s hd.esc⟩, dv)]) :: dataT (A ++ [(⟨hd.mb.toNat, hd.rw'.toNat, uneV s hd.esc⟩, dv)]) :: ts))) ∧ Hid (Chg (g :: pv.ownBlock.toList) w w')) ∨
  (¬ DtKey hd s ∧ e = .returned (.int .u8 2) ∧ Hid (Chg [] w0 w') ∧ Hid (Chg [] w w')) := by
 obtain ⟨i0, hi, hz0, hz1, hz2⟩ := info_parts info_patch1
 replace hi := Lib.hid hi
 replace hz0 := Lib.hid hz0
 replace hz1 := Lib.hid hz1
 replace hz2 := Lib.hid hz2
 have DC := Lib.hid (unescape_any v s hd.esc w (hsl w H.chg) hbs hl hcap)
 have SU : Hid (∀ W', Chg [] w0 W' → Calls Tryz.prog 161 #[v] W' fun e w' => e = .returned (.int .u32 (sum s : Nat)) ∧ Hid (Chg [] W' w')) := fun W' c => by
  have m := sum_any v (ints s) W' (hsl W' c) (ints_by hbs) (by rw [ints_length]; omega)
  rw [nats_ints] at m
  exact m
 have KE : Hid (DtKey hd s ↔ uneE s hd.esc = 0 ∧ sum s = hd.sm) := Iff.rfl
 have HA := Lib.hid hA
 obtain ⟨h0, h1, h2, h3, h4, h5, es, hsm⟩ := hd
 dsimp only at hm hr DC KE ⊢
 obtain ⟨m, rfl⟩ : ∃ m : Nat, h4 = m := ⟨h4.toNat, by omega⟩
 obtain ⟨r, rfl⟩ : ∃ r : Nat, h5 = r := ⟨h5.toNat, by omega⟩
 rw [Int.toNat_natCast, Int.toNat_natCast]
 generalize DtKey _ s = K at *
 unfold UneIs at DC
 generalize uneE s es = er at *
 generalize uneV s es = U at *
 generalize sum s = S at *
 have OA := Lib.hid (show OwnW 3 w 0 105 pv (A.map pvSlot) from H.get 1 rfl)
 obtain ⟨po, pc, hpv⟩ := OA.out.slice
 rw [List.length_map] at hpv
 subst hpv
 have HH := Lib.hid H
 have b0 := (H.get 0 rfl : Blk w g 280 _).cell (j := 11) rfl
 clear hsl hbs hcap hl hA hm hr H OA
 go_enter Tryz.func238, Tryz.ntmps238
 go_wp2_with (go_at_call 257; refine DC.out.mono ?_; rintro e w1 ⟨u, rfl, OU, C1⟩)
 clear b0 DC
 have H1 := Lib.hid (HH.out.own OU.out C1.out)
 clear OU HH
 have c12 := (H1.out.get 1 rfl : Blk w1 g 280 _).cell (j := 12) rfl
 by_cases h0 : er = 0
 case neg =>
  have hne : (er != 0) = true := by simpa using h0
  go_quiet (fail)
  go_wp2_with fail
  go_ret
  exact .inr ⟨fun k => h0 (KE.out.1 k).1, rfl, H1.out.chg.drewN _, C1.out.drewN _⟩
 subst h0
 have CC : Hid (∀ w', Chg [] w1 w' → w'.cell? ⟨g, 12, none⟩ = some (.int .u32 (hsm : Int))) := fun w' c => ((H1.out.get 1 rfl : Blk w1 g 280 _).chg c (by simp)).cell (j := 12) rfl
 go_region_held3 (fun w' : World => w'.cell? ⟨g, 12, none⟩ = some (.int .u32 (hsm : Int))) (first | exact c12 | exact CC.out _ C2.out) (first | (go_at_call 161; refine (SU.out _ (by first | exact H1.out.chg | exact H1.out.chg.drew | exact H1.out.chg.drewN _)).mono ?_; rintro e w2 ⟨rfl, C2'⟩; have C2 : Hid (Chg [] w1 w2) := (by first | exact C2'.out | exact ((Chg.refl [] w1).drew).trans C2'.out | exact ((Chg.refl [] w1).drewN _).trans C2'.out); clear C2'))
 clear c12 CC SU
 have H2 := Lib.hid (H1.out.quiet C2.out)
 have C12 := Lib.hid (C1.out.trans C2.out)
 clear H1 C2 C1
 by_cases hS : (S : Int) = hsm
 case neg =>
  have hne : ((S : Int) != (hsm : Int)) = true := by simpa using hS
  go_wp2_with fail
  go_ret
  exact .inr ⟨fun k => hS (congrArg (fun z : Nat => (z : Int)) (KE.out.1 k).2), rfl, H2.out.chg, C12.out⟩
 have hne : ((S : Int) != (hsm : Int)) = false := by simp [hS]
 have YK : Hid K := KE.out.2 ⟨(by trivial), Int.ofNat.inj hS⟩
 clear KE hS
 have BT := Lib.hid (H2.out.get 1 rfl : Blk w2 g 280 _)
 have OW : Hid (OwnW 3 w2 0 105 (.slice po A.length pc) (A.map pvSlot)) := H2.out.get 2 rfl
 have OR : Hid (w2.ownsRow 0 105 3 (.slice po A.length pc) A.length (A.map pvSlot).flatten) := by have := OW.out.2; rw [List.length_map] at this; exact this
 have B1 : Hid (A.length + 1 ≤ maxLen) := by have := HA.out; show _ ≤ _; unfold maxLen; omega
 have B2 : Hid ((A.length + 1) * 40 ≤ 140737488355328) := by have := HA.out; show _ ≤ _; omega
 have OFFP : Hid ((Value.slice po A.length pc).ownBlock ≠ some g) := fun e => (List.pairwise_cons.1 H2.out.tail.apart).1 (listT (.slice po A.length pc) A) List.mem_cons_self g (by simp [blkT]) (by show g ∈ (Value.slice po A.length pc).ownBlock.toList; simp [e])
 have p9 := BT.out.cell (j := 9) rfl
 have p10 := BT.out.cell (j := 10) rfl
 have p13 := BT.out.cell (j := 13) rfl
 obtain ⟨uo, uc, rfl⟩ : ∃ uo uc, u = .slice uo U.length uc := owns_slice (show w2.ownsRow 0 5 1 u U.length (ub U) by have h : w2.ownsRow 0 5 1 u (ub U).length (ub U) := H2.out.get 0 rfl; rw [ub_len] at h; exact h)
 have pA : (w2.alloc (.cells #[.int .i64 (m : Int), .int .i64 (r : Int), .slice uo U.length uc] 105)).cell? ⟨g, 13, none⟩ = some (.slice po A.length pc) := (BT.out.alloc _).cell (j := 13) rfl
 clear OW
 go_wp2_with fail
 go_region_law (first | (refine step_append_three _ (by rfl) _ _ _ (by rfl) 0 105 i0 (.agg #[.int .i64 0, .int .i64 0, .slice none 0 0]) 3 40 Tryz.underlying58 hi.out hz0.out hz1.out hz2.out rfl (by decide) _ A.length _ (by rfl) (OR.out.alloc _) ⟨w2.heap.size, 0, none⟩ 1 1 [.int .i64 (m : Int), .int .i64 (r : Int), .slice uo U.length uc] (by rfl) (by rfl) (three_new1 _ _ _ _ _) (by simp [Value.oneCell']) B1.out B2.out (Nat.zero_le _) ?_; intro vo vc wn ol2 gr2 nb2; have CG : Hid (Chg (Value.slice po A.length pc).ownBlock.toList w2 wn) := (by first | exact ((((Chg.refl [] w2).drewN _).alloc _).mono (by simp)).grown gr2.out (fun k hk => .inl (by rw [hk]; simp)) | exact (((Chg.refl [] w2).drew.alloc _).mono (by simp)).grown gr2.out (fun k hk => .inl (by rw [hk]; simp)) | exact (((Chg.refl [] w2).alloc _).mono (by simp)).grown gr2.out (fun k hk => .inl (by rw [hk]; simp))); have PN : Hid (Blk wn g 280 _) := BT.out.chg CG.out (fun hm => OFFP.out (by simpa using hm)); have z0 := PN.out.cell (j := 13) rfl; have zf := PN.out.free 13))
 all_goals have NB := Lib.hid (nb_of nb2.out (H0 := w2.heap.size) (by simp))
 all_goals have SF := Lib.hid (take_end (j := 13) (d := ⟨m, r, U⟩) H2.out CG.out rfl ol2.out NB.out)
 all_goals have CZ : Hid (Chg (g :: (Value.slice po A.length pc).ownBlock.toList) w (wn.setCell ⟨g, 13, none⟩ (.slice vo (A.length + 1) vc))) := ((C12.out.mono (by simp)).trans (CG.out.mono (fun k hk => List.mem_cons_of_mem _ hk))).setCell (.inl (by simp)) _
 all_goals clear CG PN z0 zf ol2 gr2 nb2 NB
 all_goals go_wp2_with fail
 all_goals go_ret
 all_goals exact .inl ⟨YK.out, rfl, ⟨_, _, SF⟩, CZ⟩


/-- A batch in memory: its own cells, its list of patches, their bytes. -/
def batT (g ep sq : Nat) (b : Bt) (pv : Value) : Thing := blkT g 280 (btc ep sq b.ct b.sm b.rd b.hd pv)

def Took (w0 w : World) (g ep sq : Nat) (b : Bt) (pv : Value) (s : List Nat) (ts : List Thing) (e : Ending) (w' : World) : Prop :=
 Hid (Chg (g :: pv.ownBlock.toList) w w') ∧ ((Sc.step ep sq b s = none ∧ e = .returned (.int .u8 2) ∧ Hid (Chg [] w0 w')) ∨
 ∃ t b', Sc.step ep sq b s = some (t, b') ∧ e = .returned (.int .u8 (if t = true then 1 else 0)) ∧ ∃ pv A, dOf A = b'.L ∧ Hid (Side w0 w' (batT g ep sq b' pv :: listT pv A :: dataT A :: ts)))

theorem sc_wrap {z : Int} (h1 : -1000000000 ≤ z) (h2 : z ≤ 1000000000) : IntKind.i64.wrap z = z ∧ wrap64 z = z := by
 refine ⟨?_, ?_⟩
 ·rw [IntKind.wrap_i64]; omega
 ·unfold wrap64; omega

theorem dOf_snoc (A : List Pv) (d : Pd) (v : Value) : dOf (A ++ [(d, v)]) = dOf A ++ [d] := by simp [dOf]

set_option maxHeartbeats 4000000 in
set_option maxRecDepth 100000 in
theorem took_any (w0 w : World) (ts : List Thing) (g ep sq : Nat) (b : Bt) (pv v : Value) (A : List Pv) (s : List Nat) (hA : A.length ≤ 100000) (hd : dOf A = b.L) (hsm : b.sm < 4294967296) (hct0 : 0 ≤ b.ct) (hct1 : b.ct ≤ 1023) (hrd : b.rd ≤ 100000) (hmr : b.rd % 2 = 1 → 0 ≤ b.hd.mb ∧ 0 ≤ b.hd.rw')
 (H : Side w0 w (batT g ep sq b pv :: listT pv A :: dataT A :: ts)) (hsl : ∀ w', Chg [] w0 w' → Sl w' v (ints s)) (hbl : ∀ k, v.ownBlock = some k → k < w0.heap.size) (hbs : Bs s) (hl : s.length ≤ 1000000) (hcap : ∀ ao n c, v = .slice ao n c → n ≤ c) :
 Calls Tryz.prog 179 #[.pointer (some ⟨g, 0, none⟩), v] w (Took w0 w g ep sq b pv s ts) := by
 obtain ⟨ct, sm, rd, h, L⟩ := b
 dsimp only at hd hsm hct0 hct1 hrd hmr
 have hlA : A.length = L.length := by rw [← hd]; simp [dOf]
 have OA := Lib.hid (show OwnW 3 w 0 105 pv (A.map pvSlot) from H.get 1 rfl)
 obtain ⟨po, pc, hpv⟩ := OA.out.slice
 rw [List.length_map] at hpv
 subst hpv
 have hB : Blk w g 280 (btc ep sq ct sm rd h (.slice po A.length pc)) := H.get 0 rfl
 have hg0 : w0.heap.size ≤ g := H.new _ List.mem_cons_self g (by simp [batT, blkT])
 have H1 : Hid (Side w0 (w.setCell ⟨g, 4, none⟩ (.int .i64 ((rd + 1 : Nat) : Int))) (blkT g 280 (btc ep sq ct sm (rd + 1) h (.slice po A.length pc)) :: listT (.slice po A.length pc) A :: dataT A :: ts)) :=
  H.turnAt (b := blkT g 280 (btc ep sq ct sm (rd + 1) h (.slice po A.length pc))) 0 rfl (s := [g]) ((Chg.refl [g] w).setCell (p := ⟨g, 4, none⟩) (.inl (by simp)) _) (fun k hk => .inl hk) (hB.set 4 _) (fun k hk => .inl hk)
 have C4 : Chg (g :: (Value.slice po A.length pc).ownBlock.toList) w (w.setCell ⟨g, 4, none⟩ (.int .i64 ((rd + 1 : Nat) : Int))) := (Chg.refl _ w).setCell (.inl (by simp)) _
 have TD : Hid (rd % 2 = 1 → Calls Tryz.prog 238 #[.pointer (some ⟨g, 0, none⟩), v] (w.setCell ⟨g, 4, none⟩ (.int .i64 ((rd + 1 : Nat) : Int))) (Took w0 w g ep sq ⟨ct, sm, rd, h, L⟩ (.slice po A.length pc) s ts)) := fun ho => by
  refine (takeData_any w0 _ ts g ep sq sm (rd + 1) ct h _ v A s hA (hmr ho).1 (hmr ho).2 H1.out hsl hbs hl hcap).mono ?_
  rintro e w' (⟨k, rfl, ⟨pv', dv, S⟩, CW⟩ | ⟨k, rfl, C, CW⟩)
  ·refine ⟨C4.trans CW.out, .inr ⟨false, ⟨ct, sm, rd + 1, h, L ++ [⟨h.mb.toNat, h.rw'.toNat, uneV s h.esc⟩]⟩, ?_, rfl, pv', _, by rw [dOf_snoc, hd], S⟩⟩
   unfold Sc.step dtTake
   dsimp only
   rw [if_pos ho, if_pos (show uneE s h.esc = 0 ∧ sum s = h.sm from k)]
   rfl
  ·refine ⟨C4.trans (CW.out.mono (by simp)), .inl ⟨?_, rfl, C⟩⟩
   unfold Sc.step dtTake
   dsimp only
   rw [if_pos ho, if_neg (show ¬ (uneE s h.esc = 0 ∧ sum s = h.sm) from k)]
   rfl
 have TC : Hid (¬ rd % 2 = 1 → (0 < rd ∧ (rd : Int) = 2 * ct) → Calls Tryz.prog 239 #[.pointer (some ⟨g, 0, none⟩), v] (w.setCell ⟨g, 4, none⟩ (.int .i64 ((rd + 1 : Nat) : Int))) (Took w0 w g ep sq ⟨ct, sm, rd, h, L⟩ (.slice po A.length pc) s ts)) := fun ho hc => by
  refine (takeCommit_any g ep sq sm (rd + 1) ct h _ v s _ (H1.out.get 0 rfl) (hsl _ H1.out.chg) hbs hcap).mono ?_
  rintro e w' ⟨⟨k, rfl⟩ | ⟨k, rfl⟩, C⟩
  ·refine ⟨C4.trans (C.out.mono (by simp)), .inr ⟨true, ⟨ct, sm, rd + 1, h, L⟩, ?_, rfl, _, A, hd, H1.out.quiet C.out⟩⟩
   unfold Sc.step cmTake
   dsimp only
   rw [if_neg ho, if_pos hc, if_pos (show Cm.derr s = 0 ∧ (Cm.of s).ep = ep ∧ (Cm.of s).sq = sq ∧ (Cm.of s).ct = ct ∧ (Cm.of s).sm = sm from k)]
   rfl
  ·refine ⟨C4.trans (C.out.mono (by simp)), .inl ⟨?_, rfl, H1.out.chg.trans C.out⟩⟩
   unfold Sc.step cmTake
   dsimp only
   rw [if_neg ho, if_pos hc, if_neg (show ¬ (Cm.derr s = 0 ∧ (Cm.of s).ep = ep ∧ (Cm.of s).sq = sq ∧ (Cm.of s).ct = ct ∧ (Cm.of s).sm = sm) from k)]
   rfl
 have TH : Hid (¬ rd % 2 = 1 → ¬ (0 < rd ∧ (rd : Int) = 2 * ct) → Calls Tryz.prog 240 #[.pointer (some ⟨g, 0, none⟩), v] (w.setCell ⟨g, 4, none⟩ (.int .i64 ((rd + 1 : Nat) : Int))) (Took w0 w g ep sq ⟨ct, sm, rd, h, L⟩ (.slice po A.length pc) s ts)) := fun ho hc => by
  refine (takeHeader_any g ep sq sm (rd + 1) A.length ct h po pc v s _ hsm (H1.out.get 0 rfl) (hsl _ H1.out.chg) hbs hl (fun k hk e => by have := hbl k hk; omega) hcap).mono ?_
  rintro e w' ⟨⟨k, rfl, B⟩ | ⟨k, rfl⟩, C⟩
  ·refine ⟨C4.trans (C.out.mono (by simp)), .inr ⟨false, ⟨ctNew A.length (Hd.of s).ct ct, more sm s, rd + 1, Hd.of s, L⟩, ?_, rfl, _, A, hd, H1.out.turnAt (b := batT g ep sq _ _) 0 rfl C.out (fun k hk => .inl hk) B.out (fun k hk => .inl hk)⟩⟩
   unfold Sc.step hdTake
   rw [if_neg ho, if_neg hc, if_pos (by unfold HdKey ctNew at k; unfold ctTake; rw [hlA] at k; exact k)]
   unfold ctTake ctNew
   rw [hlA]
   rfl
  ·refine ⟨C4.trans (C.out.mono (by simp)), .inl ⟨?_, rfl, H1.out.chg.fresh C.out (fun k hk => .inr (by rw [List.mem_singleton.1 hk]; exact hg0))⟩⟩
   unfold Sc.step hdTake
   rw [if_neg ho, if_neg hc, if_neg (fun k2 => k (by unfold HdKey ctNew; unfold ctTake at k2; rw [hlA]; exact k2))]
   rfl
 have b2 := (H1.out.get 0 rfl : Blk _ g 280 _).cell (j := 2) rfl
 have b4 := hB.cell (j := 4) rfl
 have f4 := hB.free 4
 obtain ⟨R, hR⟩ : ∃ R, R = rd + 1 := ⟨_, rfl⟩
 rw [← hR] at b2 TD TC TH
 have e1 : (rd : Int) + 1 = (R : Int) := by omega
 have WR := Lib.hid (sc_wrap (z := (R : Int)) (by omega) (by omega))
 have WC := Lib.hid (sc_wrap (z := 2 * ct) (by omega) (by omega))
 have SY : ∀ e w', Took w0 w g ep sq ⟨ct, sm, rd, h, L⟩ (.slice po A.length pc) s ts e w' → ∃ t : Int, e = .returned (.int .u8 t) ∧ Took w0 w g ep sq ⟨ct, sm, rd, h, L⟩ (.slice po A.length pc) s ts (.returned (.int .u8 t)) w' := fun e w' k => by
  obtain ⟨kc, k⟩ := k
  rcases k with k | ⟨t, b', k1, k2, k3⟩
  ·exact ⟨_, k.2.1, kc, .inl ⟨k.1, rfl, k.2.2⟩⟩
  ·exact ⟨_, k2, kc, .inr ⟨t, b', k1, rfl, k3⟩⟩
 generalize Took w0 w g ep sq ⟨ct, sm, rd, h, L⟩ (.slice po A.length pc) s ts = PO at *
 replace SY := Lib.hid SY
 have HR := Lib.hid hR
 clear C4 H H1 hB OA hsl hbl hbs hl hcap hA hd hlA hg0 hR hrd hmr hsm hct0 hct1
 obtain ⟨w1, w2⟩ := WR.out
 have m0 : Int.tmod (rd : Int) 2 = ((rd % 2 : Nat) : Int) := rfl
 have m4 : (rd : Int) % 2 = ((rd % 2 : Nat) : Int) := by omega
 by_cases ho : rd % 2 = 1
 ·rw [ho] at m0 m4
  have T := Lib.hid ((TD.out ho).mono (SY.out))
  clear TD TC TH ho WC b2
  go_enter Tryz.func179, Tryz.ntmps179
  go_wp2_with (go_at_call 238; refine T.out.mono ?_; rintro e w' ⟨t, rfl, h⟩; replace h := Lib.hid h)
  exact h.out
 ·have ho0 : rd % 2 = 0 := by omega
  rw [ho0] at m0 m4
  clear ho0 TD
  obtain ⟨w3, w4⟩ := WC.out
  by_cases h0 : rd = 0
  ·have T := Lib.hid ((TH.out ho (by omega)).mono (SY.out))
   subst h0
   obtain rfl : R = 1 := by have := HR.out; omega
   rw [show ((1 : Nat) : Int) = 1 from rfl] at T w1 w2 e1
   clear TC TH ho WC b2 WR
   go_enter Tryz.func179, Tryz.ntmps179
   go_wp2_with (go_at_call 240; refine T.out.mono ?_; rintro e w' ⟨t, rfl, h⟩; replace h := Lib.hid h)
   exact h.out
  have hp : (0 : Int) < rd := by omega
  by_cases hc : (rd : Int) = 2 * ct
  ·have T := Lib.hid ((TC.out ho ⟨by omega, hc⟩).mono (SY.out))
   have hq : ((rd : Int) == 2 * ct) = true := by simp [hc]
   clear TC TH ho WC h0 hc
   go_enter Tryz.func179, Tryz.ntmps179
   go_wp2_with (go_at_call 239; refine T.out.mono ?_; rintro e w' ⟨t, rfl, h⟩; replace h := Lib.hid h)
   exact h.out
  ·have T := Lib.hid ((TH.out ho (fun k => hc k.2)).mono (SY.out))
   have hq : ((rd : Int) == 2 * ct) = false := by simp [hc]
   clear TC TH ho WC h0 hc
   go_enter Tryz.func179, Tryz.ntmps179
   go_wp2_with (go_at_call 240; refine T.out.mono ?_; rintro e w' ⟨t, rfl, h⟩; replace h := Lib.hid h)
   exact h.out

open Sc (come come_succ come_len)

attribute [local go_sem] Oper.semAt_some

/-- A sector of the ring, as a slice: the one at place p, going round. -/
def secV (rb ro cap n p : Nat) : Value := .slice (some ⟨rb, ro + 128 * (p % n), none⟩) 128 (cap - 128 * (p % n))

/-- The two boxes that the iterator holds stay. -/
def Keep2 (br bf : Nat) (A B : World) : Prop := B.cell? ⟨br, 0, none⟩ = A.cell? ⟨br, 0, none⟩ ∧ B.cell? ⟨bf, 0, none⟩ = A.cell? ⟨bf, 0, none⟩

set_option maxRecDepth 100000 in
set_option maxHeartbeats 2000000 in
theorem cyc_in (n tl rb ro cap br bf : Nat) (hn0 : 0 < n) (hn : n ≤ 2048) (ht : tl < n) (hcap : 128 * n ≤ cap) (d : Nat) (l : Nat) (J Jx : List Nat → World → Prop)
 (W : World)
 (hY : ∀ pre x W1, J pre W1 → pre.length < n → YieldAt Fence.wide (d - 1) Tryz.prog l #[secV rb ro cap n x] W1 fun e W' =>
  (e = .returned (.bool true) ∧ J (pre ++ [x]) W' ∧ Keep2 br bf W1 W') ∨ (e = .returned (.bool false) ∧ Jx (pre ++ [x]) W'))
 (c1 : W.cell? ⟨br, 0, none⟩ = some (.slice (some ⟨rb, ro, none⟩) (128 * n) cap)) (c2 : W.cell? ⟨bf, 0, none⟩ = some (.int .i64 (tl : Int)))
 (h0 : J [] W) :
 CallsIn Fence.wide d Tryz.prog 237 #[.func (.yield l) #[] #[], .pointer (some ⟨br, 0, none⟩), .pointer (some ⟨bf, 0, none⟩)] W fun e W' => (∃ v, e = .returned v) ∧
  ((∃ ys, ys = come tl n ∧ J ys W') ∨ (∃ pre, (∃ k, k < n ∧ pre = come tl (k + 1)) ∧ Jx pre W')) := by
 have q1 : Int.tdiv (((128 * n : Nat)) : Int) 128 = (n : Int) := by
  have : Int.tdiv (((128 * n : Nat)) : Int) 128 = (((128 * n) / 128 : Nat) : Int) := rfl
  rw [this]; omega
 have q2 : (((128 * n : Nat)) : Int) / 128 = (n : Int) := by omega
 obtain ⟨LN, hLN⟩ : ∃ LN, LN = 128 * n := ⟨_, rfl⟩
 rw [← hLN] at q1 q2 c1 hcap
 have HLN := Lib.hid hLN
 clear hLN
 refine callsIn_of_wp Tryz.func237 rfl trivial ?_ rfl
 simp only [Tryz.ntmps237, List.size_toArray, List.length_cons, List.length_nil, Nat.reduceAdd, Nat.reduceSub, Array.replicate_succ, Array.replicate_zero, List.push_toArray, List.append_toArray, List.nil_append, List.cons_append]
 gi_wp2
 gi_loopw [11] (fun i wr => ∃ k : Nat, k ≤ n ∧ i = .int .i64 k ∧ J (come tl k) wr ∧ Keep2 br bf W wr) (fun i _ => n - (intOf i).toNat)
 case atStart => exact ⟨0, Nat.zero_le _, rfl, h0, rfl, rfl⟩
 case round =>
  obtain ⟨k, hk, rfl, hJk, hKp⟩ := hrel
  by_cases hlt : k < n
  case neg =>
   obtain rfl : k = n := by omega
   have hge : ¬ (k : Int) < (k : Int) := by omega
   gi_wp2
   go_end0
   exact ⟨⟨_, rfl⟩, .inl hJk⟩
  have b1 : wr.cell? ⟨br, 0, none⟩ = some (.slice (some ⟨rb, ro, none⟩) LN cap) := hKp.1.trans c1
  have b2 : wr.cell? ⟨bf, 0, none⟩ = some (.int .i64 (tl : Int)) := hKp.2.trans c2
  obtain ⟨S, hS⟩ : ∃ S, S = tl + k := ⟨_, rfl⟩
  obtain ⟨q, hq⟩ : ∃ q, q = S % n := ⟨_, rfl⟩
  obtain ⟨A, hA⟩ : ∃ A, A = 128 * q := ⟨_, rfl⟩
  obtain ⟨E, hE⟩ : ∃ E, E = A + 128 := ⟨_, rfl⟩
  have hqn : q < n := by rw [hq]; exact Nat.mod_lt _ hn0
  have HLo := HLN.out
  have hEc : E ≤ LN := by omega
  obtain ⟨fn, tmps, assign, body, hy, hR⟩ := hY (come tl k) S wr hJk (by rw [come_len]; omega)
  try dsimp only at hy
  rw [secV, ← hq, ← hA] at hy
  have hcm : come tl k ++ [S] = come tl (k + 1) := by rw [come_succ, hS]
  rw [hcm] at hR
  have e1 : (tl : Int) + (k : Int) = (S : Int) := by omega
  have e2 : Int.tmod (S : Int) (n : Int) = (q : Int) := by rw [hq]; rfl
  have e2' : (S : Int) % (n : Int) = (q : Int) := by rw [hq]; rfl
  have e3 : (q : Int) * 128 = (A : Int) := by omega
  have e4 : (A : Int) + 128 = (E : Int) := by omega
  have w1 := sc_wrap (z := (S : Int)) (by omega) (by omega)
  have w2 := sc_wrap (z := (A : Int)) (by omega) (by omega)
  have w3 := sc_wrap (z := (E : Int)) (by omega) (by omega)
  have e5 : E - A = 128 := by omega
  have g1 : A ≤ E := by omega
  have g2 : E ≤ cap := by omega
  have g3 : ¬ cap = A := by omega
  have hk1 : (k : Int) < n := by omega
  have hn3 : ¬ (n : Int) = 0 := by omega
  clear hS hq hA hE HLN HLo hEc hcm hqn
  gi_wp2
  refine ⟨fun h => (by cases h), ?_⟩
  refine hR.mono ?_
  rintro e W3 (⟨rfl, hJ3, hK3⟩ | ⟨rfl, hJx3⟩)
  ·gi_wp2
   go_roundw
   case rel => exact ⟨k + 1, by omega, by go_num, hJ3, hK3.1.trans hKp.1, hK3.2.trans hKp.2⟩
   case measure => simp [intOf]; omega
  ·gi_wp2
   refine bodyPost_ret (results_none rfl _ _ _) rfl ?_
   exact ⟨⟨_, rfl⟩, .inr ⟨_, ⟨k, hlt, rfl⟩, hJx3⟩⟩

/-- What the ring's sectors are, as an iterator. -/
theorem cyc_stops (n tl rb ro cap br bf : Nat) (hn0 : 0 < n) (hn : n ≤ 2048) (ht : tl < n) (hcap : 128 * n ≤ cap) (d : Nat) (w : World)
 (c1 : w.cell? ⟨br, 0, none⟩ = some (.slice (some ⟨rb, ro, none⟩) (128 * n) cap)) (c2 : w.cell? ⟨bf, 0, none⟩ = some (.int .i64 (tl : Int)))
 (b1 : br < w.heap.size) (b2 : bf < w.heap.size) :
 SeqStopsK Fence.wide d Tryz.prog 237 #[.pointer (some ⟨br, 0, none⟩), .pointer (some ⟨bf, 0, none⟩)]
  (fun x : Nat => #[secV rb ro cap n x]) (Keep2 br bf) (fun ys => ys = come tl n) (fun pre => ∃ k, k < n ∧ pre = come tl (k + 1)) n w := by
 intro l J Jx W hW hJ hJx hY h0
 exact cyc_in n tl rb ro cap br bf hn0 hn ht hcap d l J Jx W hY ((hW.cell (p := ⟨br, 0, none⟩) b1).trans c1) ((hW.cell (p := ⟨bf, 0, none⟩) b2).trans c2) h0

set_option maxHeartbeats 1000000 in
theorem cyclic_any (ao : Option Addr) (n c : Nat) (tl : Int) (w : World) :
 Calls Tryz.prog 178 #[.slice ao n c, .int .i64 tl] w fun e w' =>
  e = .returned (.func (.func 237) #[] #[.pointer (some ⟨w.heap.size, 0, none⟩), .pointer (some ⟨w.heap.size + 1, 0, none⟩)]) ∧ (w.alloc (.cells #[.slice ao n c] 65)).alloc (.cells #[.int .i64 tl] 3) = w' := by
 go_enter Tryz.func178, Tryz.ntmps178
 go_wp2_with fail
 go_ret
 exact ⟨rfl, rfl⟩

set_option maxHeartbeats 1000000 in
theorem begin_any (ep sq : Nat) (w : World) :
 Calls Tryz.prog 177 #[.int .u64 (ep : Int), .int .u64 (sq : Int)] w fun e w' =>
  e = .returned (.pointer (some ⟨w.heap.size, 0, none⟩)) ∧ w.alloc (.cells (btc ep sq 0 0 0 Hd.zero (.slice none 0 0)).toArray 280) = w' := by
 go_enter Tryz.func177, Tryz.ntmps177
 go_wp2_with fail
 go_ret
 exact ⟨rfl, rfl⟩

theorem scwithin_any (n a b : Int) (w : World) : Calls Tryz.prog 176 #[.int .i64 n, .int .i64 a, .int .i64 b] w fun e w' => e = .returned (.bool (decide (a ≤ n ∧ n ≤ b))) ∧ w = w' := by
 by_cases h1 : a ≤ n
 ·by_cases h2 : n ≤ b
  ·rw [decide_eq_true ⟨h1, h2⟩]
   go_enter Tryz.func176, Tryz.ntmps176
   go_wp2_with fail
   go_ret
   exact ⟨by first | rfl | simp, rfl⟩
  ·rw [decide_eq_false (fun h => h2 h.2)]
   go_enter Tryz.func176, Tryz.ntmps176
   go_wp2_with fail
   go_ret
   exact ⟨by first | rfl | simp, rfl⟩
 ·rw [decide_eq_false (fun h => h1 h.1)]
  go_enter Tryz.func176, Tryz.ntmps176
  go_wp2_with fail
  go_ret
  exact ⟨by first | rfl | simp, rfl⟩

end Go.Proofs.YtkafkdlgflkjgaaGreat
