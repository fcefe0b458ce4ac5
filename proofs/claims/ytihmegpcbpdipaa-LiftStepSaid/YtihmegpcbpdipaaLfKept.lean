/-
  Lists of patches without one of a place; what LiftOrder and LiftStep look at. By an AI agent.
-/
import Derived.Test.YtihmegpcbpdipaaLfLawA
import Derived.Test.YtihmegpcbpdipaaGSamePtsAny
import Derived.Deep.RegionHeld3
import Derived.Deep.CutBlock
import Derived.Deep.DeepCutAuto
namespace Go.Proofs.Ytihmegpcbpdipaa
open Go.RowKit

/-- Those of the first t of another place. -/
def kept (d : Pd) (A : List Pv) (t : Nat) : List Pv := (A.take t).filter fun q => decide (¬ Lf.same q.1 d)

theorem kept_step {d : Pd} {A : List Pv} {t : Nat} {x : Pv} (hx : A[t]? = some x) : kept d A (t + 1) = if Lf.same x.1 d then kept d A t else kept d A t ++ [x] := by
  obtain ⟨h1, rfl⟩ := List.getElem?_eq_some_iff.1 hx
  unfold kept
  rw [List.take_succ_eq_append_getElem h1, List.filter_append]
  by_cases c : Lf.same A[t].1 d
  · rw [if_pos c, List.filter_cons_of_neg (by simpa using c), List.filter_nil, List.append_nil]
  · rw [if_neg c, List.filter_cons_of_pos (by simpa using c), List.filter_nil]

theorem kept_len (d : Pd) (A : List Pv) (t : Nat) : (kept d A t).length ≤ t := by
  refine Nat.le_trans (List.length_filter_le _ _) ?_
  rw [List.length_take]
  omega

theorem kept_sub (d : Pd) (A : List Pv) (t : Nat) : (kept d A t).Sublist A := List.filter_sublist.trans (List.take_sublist t A)

theorem kept_all (d : Pd) (A : List Pv) : dOf (kept d A A.length) = Lf.out d (dOf A) := by
  unfold kept dOf Lf.out
  rw [List.take_length, List.filter_map]
  rfl

theorem Mk.put {A : List Pv} {k : Nat} (h : Mk A k) {d : Pd} {v : Value} (hm : d.m ≤ 15) (hr : d.r ≤ 4095) (hb : d.bs.length = 128) (hy : By (ints d.bs)) : Mk (kept d A A.length ++ [(d, v)]) (k + 1) := by
  refine ⟨?_, ?_, fun p hp => ?_⟩
  · have e : dOf (kept d A A.length ++ [(d, v)]) = Lf.putEnd d (dOf A) := by
      unfold dOf
      rw [List.map_append]
      unfold Lf.putEnd
      rw [show List.map (·.1) (kept d A A.length) = Lf.out d (List.map (·.1) A) from kept_all d A]
      rfl
    rw [e]
    exact Lf.apart_putEnd h.apart
  · rw [List.length_append, List.length_singleton]
    have := kept_len d A A.length
    have := h.few
    omega
  · rcases List.mem_append.1 hp with hp | hp
    · exact h.each p ((kept_sub d A _).subset hp)
    · rw [List.mem_singleton.1 hp]
      exact ⟨hm, hr, hb, hy⟩

theorem put_mem {A : List Pv} {S : List Pd} {d : Pd} {v : Value} (hS : Lf.Srt S) (h : ∀ x, x ∈ dOf A ↔ x ∈ S) (x : Pd) : x ∈ dOf (kept d A A.length ++ [(d, v)]) ↔ x ∈ Lf.ins d S := by
  have e : dOf (kept d A A.length ++ [(d, v)]) = Lf.putEnd d (dOf A) := by
    unfold dOf
    rw [List.map_append]
    unfold Lf.putEnd
    rw [show List.map (·.1) (kept d A A.length) = Lf.out d (List.map (·.1) A) from kept_all d A]
    rfl
  rw [e]
  exact Lf.mem_putEnd hS h

/-- A list of slots has one more. -/
theorem more_list {w0 w1 wn : World} {ts : List Thing} {n : Nat} {v vn bv : Value} {A : List Pv} {d : Pd} (h : Side w0 w1 (listT v A :: ts))
    (c : Chg v.ownBlock.toList w1 wn) (hn : n = A.length + 1) (ol : wn.ownsRow 0 49 3 vn n ((A.map pvSlot).flatten ++ [.int .i64 (d.m : Int), .int .i64 (d.r : Int), bv])) (nb : ∀ k, vn.ownBlock = some k → v.ownBlock = some k ∨ w1.heap.size ≤ k) :
    Side w0 wn (listT vn (A ++ [(d, bv)]) :: ts) := by
  refine h.turn c (fun k hk => .inl hk) (⟨pv_slots _, ?_⟩ : OwnW 3 wn 0 49 vn ((A ++ [(d, bv)]).map pvSlot)) (fun k hk => ?_)
  · have e : ((A ++ [(d, bv)]).map pvSlot).flatten = (A.map pvSlot).flatten ++ [.int .i64 (d.m : Int), .int .i64 (d.r : Int), bv] := by
      rw [flat_append3]
      rfl
    rw [e, List.length_map, List.length_append, List.length_singleton, ← hn]
    exact ol
  · have hk' : vn.ownBlock = some k := by simpa [listT, wideT] using hk
    rcases nb k hk' with q | q
    · exact .inl (by show k ∈ v.ownBlock.toList; simp [q])
    · exact .inr q

theorem Side.subData {w0 w : World} {ts : List Thing} {A B : List Pv} (h : Side w0 w (dataT A :: ts)) (s : B.Sublist A) : Side w0 w (dataT B :: ts) := h.poolSub (s.map _)

/-- Whether it has begun again from the smallest row, ahead of the k-th. -/
def rnd (row : Nat) (L : List Pd) : Nat → Bool
  | 0 => false
  | k + 1 => match L[k]? with
    | some p => decide (p.r < row)
    | none => false

theorem same_one {w : World} {h1 h2 : Nat} {p q : PtD} (hp : Pts w (.slice (some ⟨h1, 0, none⟩) 1 1) [p]) (hq : Pts w (.slice (some ⟨h2, 0, none⟩) 1 1) [q]) :
    Calls Try.prog 13 #[.slice (some ⟨h1, 0, none⟩) 1 1, .slice (some ⟨h2, 0, none⟩) 1 1] w fun e w' => ∃ b : Bool, e = .returned (.bool b) ∧ Hid (p.alike q → b = true) ∧ Hid (Chg [] w w') := by
  refine (samePts_any _ _ [p] [q] w hp hq rfl).mono ?_
  rintro e w' ⟨⟨b, rfl, hb⟩, n, rfl⟩
  refine ⟨b, rfl, fun h => hb.2 fun i x y hx hy => ?_, (Chg.refl _ _).drewN n⟩
  have hi : i = 0 := by have := (List.getElem?_eq_some_iff.1 hx).1; simp at this; exact this
  subst hi
  obtain rfl : p = x := by simpa using hx
  obtain rfl : q = y := by simpa using hy
  exact h

end Go.Proofs.Ytihmegpcbpdipaa
