/-
  The program's ring: the function that gives its spans, one by one. By an AI agent.
-/
import Derived.Test.YtkafkdlgflkjgaaGreatBG
import Derived.RangeFuncNested
import Derived.RangeFuncBound
import Derived.RangeFuncCalls
import Derived.RangeFuncLeaves
import Derived.Shelf.Abstract
import Derived.Shelf.RegionOpen
import Derived.OwnWalkIn
import Derived.TacticsInMore
import Derived.LoopNIn
import Derived.LoopIn
namespace Go.Proofs.YtkafkdlgflkjgaaGreat
open Go.RowKit Go.Shelf

attribute [local go_sem] Oper.semAt_some

theorem wrap_in {z : Int} (h1 : -1000000000 ≤ z) (h2 : z ≤ 1000000000) : IntKind.i64.wrap z = z ∧ wrap64 z = z := by
 refine ⟨?_, ?_⟩
 ·rw [IntKind.wrap_i64]; omega
 ·unfold wrap64; omega

/-- The two runs of n places from one on, in a ring of S; either may be of none. -/
def runs (S f n : Nat) : List (Nat × Nat) := [(f, min n (S - f)), (0, n - min n (S - f))]

/-- The spans: runs that are of some. -/
def spn (S f n : Nat) : List (Nat × Nat) := (runs S f n).filter fun p => decide (0 < p.2)

theorem ix0 (a b c d : Int) (w : World) : (Instr.index 315 (.agg #[.int .i64 a, .int .i64 b, .int .i64 c, .int .i64 d]) (.int .i64 0)).run Tryz.prog w = .ok (.agg #[.int .i64 a, .int .i64 b]) w := by kernel_rfl
theorem ix1 (a b c d : Int) (w : World) : (Instr.index 315 (.agg #[.int .i64 a, .int .i64 b, .int .i64 c, .int .i64 d]) (.int .i64 1)).run Tryz.prog w = .ok (.agg #[.int .i64 c, .int .i64 d]) w := by kernel_rfl

set_option maxRecDepth 100000 in
set_option maxHeartbeats 2000000 in
theorem iter_in (S f n m q bn br bf R : Nat) (hf : f < S) (hn : n ≤ S) (hS : S ≤ 2048) (hm : m = min n (S - f)) (hq : q = n - m) (d : Nat) (l : Nat) (J Jx : List (Nat × Nat) → World → Prop)
 (W : World) (hJ : AbidesFrom W.heap.size J) (_hJx : AbidesFrom W.heap.size Jx)
 (hY : ∀ pre x W1, J pre W1 → pre.length < 2 → YieldAt Fence.wide (d - 1) Tryz.prog l #[.agg #[.int .i64 (x.1 : Int), .int .i64 (x.2 : Int)]] W1 fun e W' =>
  (e = .returned (.bool true) ∧ J (pre ++ [x]) W' ∧ True) ∨ (e = .returned (.bool false) ∧ Jx (pre ++ [x]) W'))
 (c1 : W.cell? ⟨bn, 0, none⟩ = some (.int .i64 (n : Int))) (c2 : W.cell? ⟨br, 0, none⟩ = some (.pointer (some ⟨R, 0, none⟩))) (c3 : W.cell? ⟨R, 0, none⟩ = some (.int .i64 (S : Int))) (c4 : W.cell? ⟨bf, 0, none⟩ = some (.int .i64 (f : Int)))
 (h0 : J [] W) :
 CallsIn Fence.wide d Tryz.prog 226 #[.func (.yield l) #[] #[], .pointer (some ⟨bn, 0, none⟩), .pointer (some ⟨br, 0, none⟩), .pointer (some ⟨bf, 0, none⟩)] W fun e W' => (∃ v, e = .returned v) ∧
  ((∃ ys, ys = ([(f, m), (0, q)] : List (Nat × Nat)).filter (fun p => decide (0 < p.2)) ∧ J ys W') ∨ (∃ pre, True ∧ Jx pre W')) := by
 have e1 : (S : Int) - (f : Int) = ((S - f : Nat) : Int) := by omega
 have s1 := (wrap_in (z := ((S - f : Nat) : Int)) (by omega) (by omega)).1
 have s2 := (wrap_in (z := ((S - f : Nat) : Int)) (by omega) (by omega)).2
 refine callsIn_of_wp Tryz.func226 rfl trivial ?_ rfl
 simp only [Tryz.ntmps226, List.size_toArray, List.length_cons, List.length_nil, Nat.reduceAdd, Nat.reduceSub, Array.replicate_succ, Array.replicate_zero, List.push_toArray, List.append_toArray, List.nil_append, List.cons_append]
 gi_wp2
 gi_region
 all_goals gi_wp2
 have g1 : min (n : Int) ((S - f : Nat) : Int) = (m : Int) := by omega
 have g2 : (n : Int) - (m : Int) = (q : Int) := by omega
 rw [g1, g2]
 have hJ1 : J [] W.drew := hJ _ _ _ none h0 (⟨rfl, rfl, rfl, Nat.le_refl _, fun _ _ _ => rfl⟩ : W.grownBy W.drew none) (fun r e => by cases e)
 generalize W.drew = V at hJ1 ⊢
 have hql : q ≤ 2048 := by omega
 have hml : m ≤ 2048 := by omega
 clear c1 c2 c3 c4 h0 e1 s1 s2 hm hq g1 g2
 gi_loopw [24] (fun i wr => ∃ k : Nat, k ≤ 2 ∧ i = .int .i64 k ∧ J ((([(f, m), (0, q)] : List (Nat × Nat)).take k).filter fun p => decide (0 < p.2)) wr) (fun i _ => 2 - (intOf i).toNat)
 case atStart => exact ⟨0, Nat.zero_le _, rfl, hJ1⟩
 case round =>
  obtain ⟨k, hk, rfl, hJk⟩ := hrel
  rcases (show k = 0 ∨ k = 1 ∨ k = 2 by omega) with rfl | rfl | rfl
  ·have al : ∀ o : Obj, J [] (wr.alloc o) := fun o => hJ _ _ _ none hJk (World.grownBy_alloc wr o none) (fun r e => by cases e)
   have ix := ix0 (f : Int) (m : Int) 0 (q : Int)
   rcases Nat.eq_zero_or_pos m with hze | hpos
   ·have hp : ¬ (0 : Int) < m := by omega
    replace hze := Lib.hid hze
    gi_wp2
    refine ⟨fun _ h => (by cases h), ?_⟩
    gi_wp2
    go_roundw
    case rel => exact ⟨1, by omega, rfl, by refine cast (congrArg (fun z => J z _) ?_) (al _); simp [hze.out]⟩
    case measure => simp [intOf]
   ·obtain ⟨fn, tmps, assign, body, hy, hR⟩ := hY [] (f, m) (wr.alloc (.cells #[.int .i64 (f : Int), .int .i64 (m : Int)] 230)) (al _) (by simp)
    dsimp only at hy
    have hp : (0 : Int) < m := by omega
    gi_wp2
    refine ⟨fun h => (by cases h), ?_⟩
    refine hR.mono ?_
    rintro e W3 (⟨rfl, hJ3, _⟩ | ⟨rfl, hJx3⟩)
    ·gi_wp2
     go_roundw
     case rel => exact ⟨1, by omega, rfl, by simpa [hpos] using hJ3⟩
     case measure => simp [intOf]
    ·gi_wp2
     refine bodyPost_ret (results_none rfl _ _ _) rfl ?_
     exact ⟨⟨_, rfl⟩, .inr ⟨_, trivial, hJx3⟩⟩
  ·have al : ∀ o : Obj, J (([(f, m)] : List (Nat × Nat)).filter fun p => decide (0 < p.2)) (wr.alloc o) := fun o => hJ _ _ _ none hJk (World.grownBy_alloc wr o none) (fun r e => by cases e)
   have ix := ix1 (f : Int) (m : Int) 0 (q : Int)
   rcases Nat.eq_zero_or_pos q with hze | hpos
   ·have hp : ¬ (0 : Int) < q := by omega
    replace hze := Lib.hid hze
    gi_wp2
    refine ⟨fun _ h => (by cases h), ?_⟩
    gi_wp2
    go_roundw
    case rel => exact ⟨2, by omega, rfl, by refine cast (congrArg (fun z => J z _) ?_) (al _); rcases Nat.eq_zero_or_pos m with h | h <;> simp [h, hze.out]⟩
    case measure => simp [intOf]
   ·obtain ⟨fn, tmps, assign, body, hy, hR⟩ := hY (([(f, m)] : List (Nat × Nat)).filter fun p => decide (0 < p.2)) (0, q) (wr.alloc (.cells #[.int .i64 0, .int .i64 (q : Int)] 230)) (al _) (by exact Nat.lt_of_le_of_lt (List.length_filter_le _ _) (by simp))
    dsimp only at hy
    rw [show ((0 : Nat) : Int) = 0 from rfl] at hy
    have hp : (0 : Int) < q := by omega
    gi_wp2
    refine ⟨fun h => (by cases h), ?_⟩
    refine hR.mono ?_
    rintro e W3 (⟨rfl, hJ3, _⟩ | ⟨rfl, hJx3⟩)
    ·gi_wp2
     go_roundw
     case rel => exact ⟨2, by omega, rfl, by refine cast (congrArg (fun z => J z _) ?_) hJ3; rcases Nat.eq_zero_or_pos m with h | h <;> simp [h, hpos]⟩
     case measure => simp [intOf]
    ·gi_wp2
     refine bodyPost_ret (results_none rfl _ _ _) rfl ?_
     exact ⟨⟨_, rfl⟩, .inr ⟨_, trivial, hJx3⟩⟩
  ·gi_wp2
   go_end0
   exact ⟨⟨_, rfl⟩, .inl ⟨_, rfl, hJk⟩⟩

/-- What the ring's spans hand back, as an iterator. -/
theorem iter_stops (S f n bn br bf R : Nat) (hf : f < S) (hn : n ≤ S) (hS : S ≤ 2048) (d : Nat) (w : World)
 (c1 : w.cell? ⟨bn, 0, none⟩ = some (.int .i64 (n : Int))) (c2 : w.cell? ⟨br, 0, none⟩ = some (.pointer (some ⟨R, 0, none⟩))) (c3 : w.cell? ⟨R, 0, none⟩ = some (.int .i64 (S : Int))) (c4 : w.cell? ⟨bf, 0, none⟩ = some (.int .i64 (f : Int)))
 (b1 : bn < w.heap.size) (b2 : br < w.heap.size) (b3 : R < w.heap.size) (b4 : bf < w.heap.size) :
 SeqStopsK Fence.wide d Tryz.prog 226 #[.pointer (some ⟨bn, 0, none⟩), .pointer (some ⟨br, 0, none⟩), .pointer (some ⟨bf, 0, none⟩)]
  (fun x : Nat × Nat => #[.agg #[.int .i64 (x.1 : Int), .int .i64 (x.2 : Int)]]) (fun _ _ => True) (fun ys => ys = spn S f n) (fun _ => True) 2 w := by
 intro l J Jx W hW hJ hJx hY h0
 exact iter_in S f n _ _ bn br bf R hf hn hS rfl rfl d l J Jx W hJ hJx hY ((hW.cell (p := ⟨bn, 0, none⟩) b1).trans c1) ((hW.cell (p := ⟨br, 0, none⟩) b2).trans c2) ((hW.cell (p := ⟨R, 0, none⟩) b3).trans c3) ((hW.cell (p := ⟨bf, 0, none⟩) b4).trans c4) h0

/-- The three boxes that it holds. -/
def boxes3 (w : World) (R : Nat) (f n : Int) : World :=
 ((w.alloc (.cells #[.pointer (some ⟨R, 0, none⟩)] 179)).alloc (.cells #[.int .i64 f] 3)).alloc (.cells #[.int .i64 n] 3)

set_option maxHeartbeats 1000000 in
theorem spans_any (R : Nat) (f n : Int) (w : World) :
 Calls Tryz.prog 167 #[.pointer (some ⟨R, 0, none⟩), .int .i64 f, .int .i64 n] w fun e w' =>
  e = .returned (.func (.func 226) #[] #[.pointer (some ⟨w.heap.size + 2, 0, none⟩), .pointer (some ⟨w.heap.size, 0, none⟩), .pointer (some ⟨w.heap.size + 1, 0, none⟩)]) ∧ boxes3 w R f n = w' := by
 go_enter Tryz.func167, Tryz.ntmps167
 go_wp2_with fail
 go_ret
 exact ⟨rfl, rfl⟩

end Go.Proofs.YtkafkdlgflkjgaaGreat

/-
  The program's ring: what stands in memory, and the calls that only read. By an AI agent.
-/
namespace Go.Proofs.YtkafkdlgflkjgaaGreat
open Go.RowKit

/-- A ring, in numbers. -/
structure Rg (S t u : Nat) : Prop where
 lo : 5 ≤ S
 hi : S ≤ 2048
 tail : t < S
 used : u ≤ S

/-- The ring at a block. -/
def RingB (w : World) (R S t u : Nat) : Prop := Blk w R 262 [.int .i64 (S : Int), .int .i64 (t : Int), .int .i64 (u : Int)]

/-- An answer: memory stays as it was, but for what is new. -/
def Says (w : World) (v : Value) (e : Ending) (w' : World) : Prop := e = .returned v ∧ Hid (Chg [] w w')

theorem Rg.head_lt {S t u : Nat} (h : Rg S t u) (i : Nat) : (t + i) % S < S := Nat.mod_lt _ (by have := h.lo; omega)

section
variable {S t u R : Nat} (h : Rg S t u) (w : World) (hb : RingB w R S t u)
include h hb

set_option maxHeartbeats 1000000 in
set_option maxRecDepth 100000 in
theorem place_any (i : Nat) (hi : i ≤ S) : Calls Tryz.prog 224 #[.pointer (some ⟨R, 0, none⟩), .int .i64 (i : Int)] w (Says w (.int .i64 (((t + i) % S : Nat) : Int))) := by
 have h1 := h.lo
 have h2 := h.hi
 have h3 := h.tail
 have c0 := hb.cell (j := 0) rfl
 have c1 := hb.cell (j := 1) rfl
 obtain ⟨a, ha⟩ : ∃ a, a = t + i := ⟨_, rfl⟩
 have e1 : (t : Int) + (i : Int) = (a : Int) := by omega
 obtain ⟨w1, w2⟩ := wrap_in (z := (a : Int)) (by omega) (by omega)
 have e2 : Int.tmod (a : Int) (S : Int) = ((a % S : Nat) : Int) := rfl
 have e3 : ¬ (S : Int) = 0 := by omega
 have hm : a % S < S := Nat.mod_lt _ (by omega)
 obtain ⟨m, hmm⟩ : ∃ m, m = a % S := ⟨_, rfl⟩
 rw [← ha, ← hmm]
 rw [← hmm] at e2 hm
 obtain ⟨w3, w4⟩ := wrap_in (z := (m : Int)) (by omega) (by omega)
 clear h hb h1 h2 h3 hi ha hm hmm
 generalize (a : Int) = A at *
 generalize (S : Int) = S' at *
 generalize (m : Int) = M at *
 generalize (t : Int) = t' at *
 generalize (i : Int) = i' at *
 go_enter Tryz.func224, Tryz.ntmps224
 go_wp2_with fail
 go_quiet (fail)
 go_wp2_with fail
 go_ret
 exact ⟨rfl, (Chg.refl _ w).drewN _⟩

set_option maxHeartbeats 1000000 in
set_option maxRecDepth 100000 in
theorem head_any : Calls Tryz.prog 168 #[.pointer (some ⟨R, 0, none⟩)] w (Says w (.int .i64 (((t + u) % S : Nat) : Int))) := by
 have c2 := hb.cell (j := 2) rfl
 have P := Lib.hid (place_any h w hb u h.used)
 clear h hb
 go_enter Tryz.func168, Tryz.ntmps168
 go_wp2_with (go_at_call 224; refine P.out.mono ?_; rintro e w' ⟨rfl, C⟩)
 go_ret
 exact ⟨rfl, C⟩

set_option maxHeartbeats 1000000 in
set_option maxRecDepth 100000 in
theorem free_any : Calls Tryz.prog 105 #[.pointer (some ⟨R, 0, none⟩)] w (Says w (.int .i64 ((S - u : Nat) : Int))) := by
 have h1 := h.hi
 have h2 := h.used
 have c0 := hb.cell (j := 0) rfl
 have c2 := hb.cell (j := 2) rfl
 have e1 : (S : Int) - (u : Int) = ((S - u : Nat) : Int) := by omega
 obtain ⟨w1, w2⟩ := wrap_in (z := ((S - u : Nat) : Int)) (by omega) (by omega)
 generalize ((S - u : Nat) : Int) = A at *
 generalize (S : Int) = S' at *
 generalize (u : Int) = u' at *
 clear h hb h1 h2
 go_enter Tryz.func105, Tryz.ntmps105
 go_wp2_with fail
 go_quiet (fail)
 go_wp2_with fail
 go_ret
 exact ⟨rfl, (Chg.refl _ w).drewN _⟩

omit h hb in
set_option maxHeartbeats 1000000 in
theorem rgwithin_any (n a b : Int) : Calls Tryz.prog 193 #[.int .i64 n, .int .i64 a, .int .i64 b] w fun e w' => e = .returned (.bool (decide (a ≤ n) && decide (n ≤ b))) ∧ w = w' := by
 go_enter Tryz.func193, Tryz.ntmps193
 by_cases h1 : a ≤ n
 ·by_cases h2 : n ≤ b
  ·go_wp2_with fail
   go_ret
   exact ⟨by simp [h1, h2], rfl⟩
  ·go_wp2_with fail
   go_ret
   exact ⟨by simp [h2], rfl⟩
 ·go_wp2_with fail
  go_ret
  exact ⟨by rw [show decide (a ≤ n) = false from decide_eq_false (by omega)]; rfl, rfl⟩

end

set_option maxHeartbeats 1000000 in
set_option maxRecDepth 100000 in
theorem rgnew_ok {S t u : Nat} (h : Rg S t u) (w : World) : Calls Tryz.prog 129 #[.int .i64 (S : Int), .int .i64 (t : Int), .int .i64 (u : Int)] w fun e w' =>
 e = .returned (.tuple #[.pointer (some ⟨w.heap.size, 0, none⟩), .int .u16 0]) ∧ Hid (RingB w' w.heap.size S t u) ∧ Hid (Chg [] w w') := by
 have h1 := h.lo
 have h2 := h.hi
 have h3 := h.tail
 have h4 := h.used
 have e1 : (S : Int) - 1 = ((S - 1 : Nat) : Int) := by omega
 obtain ⟨w1, w2⟩ := wrap_in (z := ((S - 1 : Nat) : Int)) (by omega) (by omega)
 have T1 : Hid ((decide ((5 : Int) ≤ (S : Int)) && decide ((S : Int) ≤ 2048)) = true) := by
  show _ = true
  simp; omega
 have T2 : Hid ((decide ((0 : Int) ≤ (t : Int)) && decide ((t : Int) ≤ ((S - 1 : Nat) : Int))) = true) := by
  show _ = true
  simp; omega
 have T3 : Hid ((decide ((0 : Int) ≤ (u : Int)) && decide ((u : Int) ≤ (S : Int))) = true) := by
  show _ = true
  simp; omega
 clear h h1 h2 h3 h4
 go_enter Tryz.func129, Tryz.ntmps129
 go_wp2_with (go_at_call 193; refine (rgwithin_any _ _ _ _).mono ?_; simp only [T1.out, T2.out, T3.out]; rintro e w' ⟨rfl, rfl⟩)
 go_ret2
 exact ⟨rfl, Blk.made w [.int .i64 (S : Int), .int .i64 (t : Int), .int .i64 (u : Int)] 262, (Chg.refl _ _).alloc _⟩

end Go.Proofs.YtkafkdlgflkjgaaGreat

/-
  What only reads of the program's ring: memory stays as it is. By an AI agent.
-/
namespace Go.Proofs.YtkafkdlgflkjgaaGreat
open Go.RowKit

/-- An answer, and memory is as it was. -/
def Still (w : World) (v : Value) (e : Ending) (w' : World) : Prop := e = .returned v ∧ ∃ q, w' = w.drewN q

section
variable {S t u R : Nat} (h : Rg S t u) (w : World) (hb : RingB w R S t u)
include h hb

set_option maxHeartbeats 1000000 in
set_option maxRecDepth 100000 in
theorem place_still (i : Nat) (hi : i ≤ S) : Calls Tryz.prog 224 #[.pointer (some ⟨R, 0, none⟩), .int .i64 (i : Int)] w (Still w (.int .i64 (((t + i) % S : Nat) : Int))) := by
 have h1 := h.lo
 have h2 := h.hi
 have h3 := h.tail
 have c0 := hb.cell (j := 0) rfl
 have c1 := hb.cell (j := 1) rfl
 obtain ⟨a, ha⟩ : ∃ a, a = t + i := ⟨_, rfl⟩
 have e1 : (t : Int) + (i : Int) = (a : Int) := by omega
 obtain ⟨w1, w2⟩ := wrap_in (z := (a : Int)) (by omega) (by omega)
 have e2 : Int.tmod (a : Int) (S : Int) = ((a % S : Nat) : Int) := rfl
 have e3 : ¬ (S : Int) = 0 := by omega
 have hm : a % S < S := Nat.mod_lt _ (by omega)
 obtain ⟨m, hmm⟩ : ∃ m, m = a % S := ⟨_, rfl⟩
 rw [← ha, ← hmm]
 rw [← hmm] at e2 hm
 obtain ⟨w3, w4⟩ := wrap_in (z := (m : Int)) (by omega) (by omega)
 clear h hb h1 h2 h3 hi ha hm hmm
 generalize (a : Int) = A at *
 generalize (S : Int) = S' at *
 generalize (m : Int) = M at *
 generalize (t : Int) = t' at *
 generalize (i : Int) = i' at *
 go_enter Tryz.func224, Tryz.ntmps224
 go_wp2_with fail
 go_quiet (fail)
 go_wp2_with fail
 go_ret
 exact ⟨rfl, _, rfl⟩

set_option maxHeartbeats 1000000 in
set_option maxRecDepth 100000 in
theorem head_still : Calls Tryz.prog 168 #[.pointer (some ⟨R, 0, none⟩)] w (Still w (.int .i64 (((t + u) % S : Nat) : Int))) := by
 have c2 := hb.cell (j := 2) rfl
 have P := Lib.hid (place_still h w hb u h.used)
 clear h hb
 go_enter Tryz.func168, Tryz.ntmps168
 go_wp2_with (go_at_call 224; refine P.out.mono ?_; rintro e w' ⟨rfl, q, rfl⟩)
 go_ret
 exact ⟨rfl, q, rfl⟩

set_option maxHeartbeats 1000000 in
set_option maxRecDepth 100000 in
theorem free_still : Calls Tryz.prog 105 #[.pointer (some ⟨R, 0, none⟩)] w (Still w (.int .i64 ((S - u : Nat) : Int))) := by
 have h1 := h.hi
 have h2 := h.used
 have c0 := hb.cell (j := 0) rfl
 have c2 := hb.cell (j := 2) rfl
 have e1 : (S : Int) - (u : Int) = ((S - u : Nat) : Int) := by omega
 obtain ⟨w1, w2⟩ := wrap_in (z := ((S - u : Nat) : Int)) (by omega) (by omega)
 generalize ((S - u : Nat) : Int) = A at *
 generalize (S : Int) = S' at *
 generalize (u : Int) = u' at *
 clear h hb h1 h2
 go_enter Tryz.func105, Tryz.ntmps105
 go_wp2_with fail
 go_quiet (fail)
 go_wp2_with fail
 go_ret
 exact ⟨rfl, _, rfl⟩

set_option maxHeartbeats 1000000 in
theorem size_still : Calls Tryz.prog 104 #[.pointer (some ⟨R, 0, none⟩)] w (Still w (.int .i64 (S : Int))) := by
 have c0 := hb.cell (j := 0) rfl
 have _q := h.lo
 clear h hb _q
 go_enter Tryz.func104, Tryz.ntmps104
 go_wp2_with fail
 go_ret
 exact ⟨rfl, 0, rfl⟩

set_option maxHeartbeats 1000000 in
theorem used_still : Calls Tryz.prog 114 #[.pointer (some ⟨R, 0, none⟩)] w (Still w (.int .i64 (u : Int))) := by
 have c0 := hb.cell (j := 2) rfl
 have _q := h.lo
 clear h hb _q
 go_enter Tryz.func114, Tryz.ntmps114
 go_wp2_with fail
 go_ret
 exact ⟨rfl, 0, rfl⟩

set_option maxHeartbeats 1000000 in
set_option maxRecDepth 100000 in
theorem at_still (i : Nat) (hi : i < S) : Calls Tryz.prog 164 #[.pointer (some ⟨R, 0, none⟩), .int .i64 (i : Int)] w (Still w (.tuple #[.int .i64 (((t + i) % S : Nat) : Int), .int .u16 0])) := by
 have h1 := h.lo
 have h2 := h.hi
 have c0 := hb.cell (j := 0) rfl
 have P := Lib.hid (place_still h w hb i (by omega))
 have e1 : (S : Int) - 1 = ((S - 1 : Nat) : Int) := by omega
 obtain ⟨w1, w2⟩ := wrap_in (z := ((S - 1 : Nat) : Int)) (by omega) (by omega)
 have T : Hid ((decide ((0 : Int) ≤ (i : Int)) && decide ((i : Int) ≤ ((S - 1 : Nat) : Int))) = true) := by
  show _ = true
  simp; omega
 clear h hb h1 h2 hi
 go_enter Tryz.func164, Tryz.ntmps164
 go_wp2_with (first
  | (go_at_call 224; refine P.out.mono ?_; rintro e w' ⟨rfl, q, rfl⟩)
  | (go_at_call 193; refine (rgwithin_any _ _ _ _).mono ?_; simp only [T.out]; rintro e w' ⟨rfl, rfl⟩))
 go_ret2
 exact ⟨rfl, q, rfl⟩

end

end Go.Proofs.YtkafkdlgflkjgaaGreat
