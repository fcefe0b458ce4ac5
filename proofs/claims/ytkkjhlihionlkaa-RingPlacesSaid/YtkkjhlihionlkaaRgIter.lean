/-
  The program's ring: the function that gives its spans, one by one. By an AI agent.
-/
import Derived.Test.YtkkjhlihionlkaaG
import Derived.RangeFuncNested
import Derived.RangeFuncBound
import Derived.RangeFuncCalls
import Derived.RangeFuncLeaves
import Derived.Shelf.Abstract
import Derived.Shelf.RegionOpen
import Derived.OwnWalkIn
import Derived.TacticsInMore
import Derived.LoopNIn
import Derived.LoopIn
namespace Go.Proofs.Ytkkjhlihionlkaa
open Go.RowKit Go.Shelf

attribute [local go_sem] Oper.semAt_some

theorem wrap_in {z : Int} (h1 : -1000000000 ≤ z) (h2 : z ≤ 1000000000) : IntKind.i64.wrap z = z ∧ wrap64 z = z := by
  refine ⟨?_, ?_⟩
  · rw [IntKind.wrap_i64]; omega
  · unfold wrap64; omega

/-- The two runs of n places from one on, in a ring of S; either may be of none. -/
def runs (S f n : Nat) : List (Nat × Nat) := [(f, min n (S - f)), (0, n - min n (S - f))]

/-- The spans: runs that are of some. -/
def spn (S f n : Nat) : List (Nat × Nat) := (runs S f n).filter fun p => decide (0 < p.2)

/-- A span, as a value. -/
def sval (p : Nat × Nat) : Value := .agg #[.int .i64 (p.1 : Int), .int .i64 (p.2 : Int)]

theorem ix0 (a b c d : Int) (w : World) : (Instr.index 114 (.agg #[.int .i64 a, .int .i64 b, .int .i64 c, .int .i64 d]) (.int .i64 0)).run Try.prog w = .ok (.agg #[.int .i64 a, .int .i64 b]) w := by kernel_rfl
theorem ix1 (a b c d : Int) (w : World) : (Instr.index 114 (.agg #[.int .i64 a, .int .i64 b, .int .i64 c, .int .i64 d]) (.int .i64 1)).run Try.prog w = .ok (.agg #[.int .i64 c, .int .i64 d]) w := by kernel_rfl

set_option maxRecDepth 100000 in
set_option maxHeartbeats 2000000 in
theorem iter_in (S f n m q bn br bf R : Nat) (hf : f < S) (hn : n ≤ S) (hS : S ≤ 2048) (hm : m = min n (S - f)) (hq : q = n - m) (d : Nat) (l : Nat) (J Jx : List (Nat × Nat) → World → Prop)
    (W : World) (hJ : AbidesFrom W.heap.size J) (hJx : AbidesFrom W.heap.size Jx)
    (hY : ∀ pre x W1, J pre W1 → pre.length < 2 → YieldAt Fence.wide (d - 1) Try.prog l #[.agg #[.int .i64 (x.1 : Int), .int .i64 (x.2 : Int)]] W1 fun e W' =>
      (e = .returned (.bool true) ∧ J (pre ++ [x]) W' ∧ True) ∨ (e = .returned (.bool false) ∧ Jx (pre ++ [x]) W'))
    (c1 : W.cell? ⟨bn, 0, none⟩ = some (.int .i64 (n : Int))) (c2 : W.cell? ⟨br, 0, none⟩ = some (.pointer (some ⟨R, 0, none⟩))) (c3 : W.cell? ⟨R, 0, none⟩ = some (.int .i64 (S : Int))) (c4 : W.cell? ⟨bf, 0, none⟩ = some (.int .i64 (f : Int)))
    (h0 : J [] W) :
    CallsIn Fence.wide d Try.prog 49 #[.func (.yield l) #[] #[], .pointer (some ⟨bn, 0, none⟩), .pointer (some ⟨br, 0, none⟩), .pointer (some ⟨bf, 0, none⟩)] W fun e W' => (∃ v, e = .returned v) ∧
      ((∃ ys, ys = ([(f, m), (0, q)] : List (Nat × Nat)).filter (fun p => decide (0 < p.2)) ∧ J ys W') ∨ (∃ pre, True ∧ Jx pre W')) := by
  have e1 : (S : Int) - (f : Int) = ((S - f : Nat) : Int) := by omega
  have s1 := (wrap_in (z := ((S - f : Nat) : Int)) (by omega) (by omega)).1
  have s2 := (wrap_in (z := ((S - f : Nat) : Int)) (by omega) (by omega)).2
  refine callsIn_of_wp Try.func49 rfl trivial ?_ rfl
  simp only [Try.ntmps49, List.size_toArray, List.length_cons, List.length_nil, Nat.reduceAdd, Nat.reduceSub, Array.replicate_succ, Array.replicate_zero, List.push_toArray, List.append_toArray, List.nil_append, List.cons_append]
  gi_wp2
  gi_region
  all_goals gi_wp2
  have g1 : min (n : Int) ((S - f : Nat) : Int) = (m : Int) := by omega
  have g2 : (n : Int) - (m : Int) = (q : Int) := by omega
  rw [g1, g2]
  have hJ1 : J [] W.drew := hJ _ _ _ none h0 (⟨rfl, rfl, rfl, Nat.le_refl _, fun _ _ _ => rfl⟩ : W.grownBy W.drew none) (fun r e => by cases e)
  generalize W.drew = V at hJ1 ⊢
  have hql : q ≤ 2048 := by omega
  have hml : m ≤ 2048 := by omega
  clear c1 c2 c3 c4 h0 e1 s1 s2 hm hq g1 g2
  gi_loopw [24] (fun i wr => ∃ k : Nat, k ≤ 2 ∧ i = .int .i64 k ∧ J ((([(f, m), (0, q)] : List (Nat × Nat)).take k).filter fun p => decide (0 < p.2)) wr) (fun i _ => 2 - (intOf i).toNat)
  case atStart => exact ⟨0, Nat.zero_le _, rfl, hJ1⟩
  case round =>
    obtain ⟨k, hk, rfl, hJk⟩ := hrel
    rcases (show k = 0 ∨ k = 1 ∨ k = 2 by omega) with rfl | rfl | rfl
    · have al : ∀ o : Obj, J [] (wr.alloc o) := fun o => hJ _ _ _ none hJk (World.grownBy_alloc wr o none) (fun r e => by cases e)
      have ix := ix0 (f : Int) (m : Int) 0 (q : Int)
      rcases Nat.eq_zero_or_pos m with hze | hpos
      · have hp : ¬ (0 : Int) < m := by omega
        replace hze := Lib.hid hze
        gi_wp2
        refine ⟨fun _ h => (by cases h), ?_⟩
        gi_wp2
        go_roundw
        case rel => exact ⟨1, by omega, rfl, by refine cast (congrArg (fun z => J z _) ?_) (al _); simp [hze.out]⟩
        case measure => simp [intOf]
      · obtain ⟨fn, tmps, assign, body, hy, hR⟩ := hY [] (f, m) (wr.alloc (.cells #[.int .i64 (f : Int), .int .i64 (m : Int)] 61)) (al _) (by simp)
        dsimp only at hy
        have hp : (0 : Int) < m := by omega
        gi_wp2
        refine ⟨fun h => (by cases h), ?_⟩
        refine hR.mono ?_
        rintro e W3 (⟨rfl, hJ3, _⟩ | ⟨rfl, hJx3⟩)
        · gi_wp2
          go_roundw
          case rel => exact ⟨1, by omega, rfl, by simpa [hpos] using hJ3⟩
          case measure => simp [intOf]
        · gi_wp2
          refine bodyPost_ret (results_none rfl _ _ _) rfl ?_
          exact ⟨⟨_, rfl⟩, .inr ⟨_, trivial, hJx3⟩⟩
    · have al : ∀ o : Obj, J (([(f, m)] : List (Nat × Nat)).filter fun p => decide (0 < p.2)) (wr.alloc o) := fun o => hJ _ _ _ none hJk (World.grownBy_alloc wr o none) (fun r e => by cases e)
      have ix := ix1 (f : Int) (m : Int) 0 (q : Int)
      rcases Nat.eq_zero_or_pos q with hze | hpos
      · have hp : ¬ (0 : Int) < q := by omega
        replace hze := Lib.hid hze
        gi_wp2
        refine ⟨fun _ h => (by cases h), ?_⟩
        gi_wp2
        go_roundw
        case rel => exact ⟨2, by omega, rfl, by refine cast (congrArg (fun z => J z _) ?_) (al _); rcases Nat.eq_zero_or_pos m with h | h <;> simp [h, hze.out]⟩
        case measure => simp [intOf]
      · obtain ⟨fn, tmps, assign, body, hy, hR⟩ := hY (([(f, m)] : List (Nat × Nat)).filter fun p => decide (0 < p.2)) (0, q) (wr.alloc (.cells #[.int .i64 0, .int .i64 (q : Int)] 61)) (al _) (by exact Nat.lt_of_le_of_lt (List.length_filter_le _ _) (by simp))
        dsimp only at hy
        rw [show ((0 : Nat) : Int) = 0 from rfl] at hy
        have hp : (0 : Int) < q := by omega
        gi_wp2
        refine ⟨fun h => (by cases h), ?_⟩
        refine hR.mono ?_
        rintro e W3 (⟨rfl, hJ3, _⟩ | ⟨rfl, hJx3⟩)
        · gi_wp2
          go_roundw
          case rel => exact ⟨2, by omega, rfl, by refine cast (congrArg (fun z => J z _) ?_) hJ3; rcases Nat.eq_zero_or_pos m with h | h <;> simp [h, hpos]⟩
          case measure => simp [intOf]
        · gi_wp2
          refine bodyPost_ret (results_none rfl _ _ _) rfl ?_
          exact ⟨⟨_, rfl⟩, .inr ⟨_, trivial, hJx3⟩⟩
    · gi_wp2
      go_end0
      exact ⟨⟨_, rfl⟩, .inl ⟨_, rfl, hJk⟩⟩

/-- What the ring's spans hand back, as an iterator. -/
theorem iter_stops (S f n bn br bf R : Nat) (hf : f < S) (hn : n ≤ S) (hS : S ≤ 2048) (d : Nat) (w : World)
    (c1 : w.cell? ⟨bn, 0, none⟩ = some (.int .i64 (n : Int))) (c2 : w.cell? ⟨br, 0, none⟩ = some (.pointer (some ⟨R, 0, none⟩))) (c3 : w.cell? ⟨R, 0, none⟩ = some (.int .i64 (S : Int))) (c4 : w.cell? ⟨bf, 0, none⟩ = some (.int .i64 (f : Int)))
    (b1 : bn < w.heap.size) (b2 : br < w.heap.size) (b3 : R < w.heap.size) (b4 : bf < w.heap.size) :
    SeqStopsK Fence.wide d Try.prog 49 #[.pointer (some ⟨bn, 0, none⟩), .pointer (some ⟨br, 0, none⟩), .pointer (some ⟨bf, 0, none⟩)]
      (fun x : Nat × Nat => #[.agg #[.int .i64 (x.1 : Int), .int .i64 (x.2 : Int)]]) (fun _ _ => True) (fun ys => ys = spn S f n) (fun _ => True) 2 w := by
  intro l J Jx W hW hJ hJx hY h0
  exact iter_in S f n _ _ bn br bf R hf hn hS rfl rfl d l J Jx W hJ hJx hY ((hW.cell (p := ⟨bn, 0, none⟩) b1).trans c1) ((hW.cell (p := ⟨br, 0, none⟩) b2).trans c2) ((hW.cell (p := ⟨R, 0, none⟩) b3).trans c3) ((hW.cell (p := ⟨bf, 0, none⟩) b4).trans c4) h0

/-- The three boxes that it holds. -/
def boxes3 (w : World) (R : Nat) (f n : Int) : World :=
  ((w.alloc (.cells #[.pointer (some ⟨R, 0, none⟩)] 23)).alloc (.cells #[.int .i64 f] 3)).alloc (.cells #[.int .i64 n] 3)

set_option maxHeartbeats 1000000 in
theorem spans_any (R : Nat) (f n : Int) (w : World) :
    Calls Try.prog 45 #[.pointer (some ⟨R, 0, none⟩), .int .i64 f, .int .i64 n] w fun e w' =>
      e = .returned (.func (.func 49) #[] #[.pointer (some ⟨w.heap.size + 2, 0, none⟩), .pointer (some ⟨w.heap.size, 0, none⟩), .pointer (some ⟨w.heap.size + 1, 0, none⟩)]) ∧ boxes3 w R f n = w' := by
  go_enter Try.func45, Try.ntmps45
  go_wp2_with fail
  go_ret
  exact ⟨rfl, rfl⟩

end Go.Proofs.Ytkkjhlihionlkaa
