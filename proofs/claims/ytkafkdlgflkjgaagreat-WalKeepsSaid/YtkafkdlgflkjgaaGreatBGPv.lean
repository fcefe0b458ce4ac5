/-
  Lists of patches that came out, with their bytes. By an AI agent.
-/
import Derived.Test.YtkafkdlgflkjgaaGreatBGOwnMem
import Derived.Test.YtkafkdlgflkjgaaGreatBGIn
import Derived.Test.YtkafkdlgflkjgaaGreatBG
import Derived.Test.YtkafkdlgflkjgaaGreatBLfSpec
namespace Go.Proofs.YtkafkdlgflkjgaaGreat
open Go.RowKit

/-- A patch of a lift's list: what it is, and the slice of its bytes. -/
abbrev Pv := Pd × Value

def ub (bs : List Nat) : List Value := (ints bs).map (Value.int .u8)

theorem ub_len (bs : List Nat) : (ub bs).length = bs.length := by unfold ub; rw [List.length_map, ints_length]

def pvSlot (p : Pv) : List Value := [.int .i64 (p.1.m : Int), .int .i64 (p.1.r : Int), p.2]

def pvRow (p : Pv) : Value × List Value := (p.2, ub p.1.bs)

theorem pv_slots (L : List Pv) : Slots 3 (L.map pvSlot) := fun x hx => by
 obtain ⟨p, _, rfl⟩ := List.mem_map.1 hx
 rfl

/-- Each slice of bytes is a slice. -/
def PvOk (L : List Pv) : Prop := ∀ p ∈ L, ∃ ao n c, p.2 = .slice ao n c

theorem Pool.ok {w : World} {L : List Pv} (h : Pool w (L.map pvRow)) : PvOk L := fun p hp => by
 obtain ⟨ao, c, e⟩ := ownR_slice (h.row (pvRow p) (List.mem_map_of_mem hp))
 exact ⟨ao, _, c, e⟩

theorem PvOk.one {L : List Pv} (h : PvOk L) : ∀ u ∈ (L.map pvSlot).flatten, u.oneCell' = true := fun u hu => by
 obtain ⟨x, hx, hux⟩ := List.mem_flatten.1 hu
 obtain ⟨p, hp, rfl⟩ := List.mem_map.1 hx
 obtain ⟨ao, n, c, e⟩ := h p hp
 simp only [pvSlot, List.mem_cons, List.not_mem_nil, or_false] at hux
 rcases hux with rfl | rfl | rfl
 ·rfl
 ·rfl
 ·rw [e]; rfl

theorem flat_append3 (A B : List Pv) : ((A ++ B).map pvSlot).flatten = (A.map pvSlot).flatten ++ (B.map pvSlot).flatten := by
 rw [List.map_append, List.flatten_append]

def dOf (L : List Pv) : List Pd := L.map (·.1)

def listT (lv : Value) (L : List Pv) : Thing := wideT 3 105 lv (L.map pvSlot)

def dataT (L : List Pv) : Thing := poolT (L.map pvRow)

theorem least_of_cells {w : World} {ao : Option Addr} {n c : Nat} {L : List Pv} (h : RdW 3 w (.slice ao n c) (L.map pvSlot)) {k : Nat} {x : Pv} (hx : L[k]? = some x) : ∃ g, ao = some ⟨g, 0, none⟩ ∧ w.cell? ⟨g, k * 3, none⟩ = some (.int .i64 (x.1.m : Int)) ∧ w.cell? ⟨g, k * 3 + 1, none⟩ = some (.int .i64 (x.1.r : Int)) ∧ w.cell? ⟨g, k * 3 + 2, none⟩ = some x.2 := by
 obtain ⟨g, e, hc⟩ := h.at (k := k) (x := pvSlot x) (by rw [List.getElem?_map, hx]; rfl)
 exact ⟨g, e, hc 0 _ rfl, hc 1 _ rfl, hc 2 _ rfl⟩

/-- A patch of a lift's list, as it reads. -/
def toPt (p : Pv) : PtD := ⟨(p.1.m : Int), (p.1.r : Int), p.2, ints p.1.bs⟩

theorem pts_of2 {w : World} {v : Value} {A : List Pv} (h : OwnW 3 w 0 105 v (A.map pvSlot)) (hp : ∀ p ∈ A, OwnR w 0 p.2 (ub p.1.bs).length (ub p.1.bs)) (hl : A.length ≤ 1000000) (hb : ∀ p ∈ A, p.1.bs.length ≤ 1000000) : Pts w v (A.map toPt) := by
 rcases h.2.2 with ⟨rfl, h0⟩ | ⟨g, cap, cur, rfl, _, hg, _⟩
 ·have : A = [] := List.eq_nil_of_length_eq_zero (by simpa using h0)
  subst this
  exact .inl ⟨rfl, _, _, rfl⟩
 ·refine .inr ⟨g, 0, cap, by rw [List.length_map, List.length_map], (Array.getElem?_eq_some_iff.1 hg).1, by rw [List.length_map]; omega, fun i d hd => ?_⟩
  rw [List.getElem?_map] at hd
  obtain ⟨p, hpi, rfl⟩ := Option.map_eq_some_iff.1 hd
  rw [List.length_map] at h
  obtain ⟨g', e, c0, c1, c2⟩ := least_of_cells (n := A.length) h.rd hpi
  obtain rfl : g = g' := by simpa using e
  obtain ⟨e1, ho⟩ := hp p (List.mem_of_getElem? hpi)
  rw [Nat.zero_add]
  have hpl := hb p (List.mem_of_getElem? hpi)
  exact ⟨c0, c1, c2, Sl.owned ho, by show (ints p.1.bs).length ≤ _; rw [ints_length]; omega⟩

theorem alike_of {A B : List Pv} (h : dOf A = dOf B) : ∀ (i : Nat) (p q : PtD), (A.map toPt)[i]? = some p → (B.map toPt)[i]? = some q → p.alike q := fun i p q hp hq => by
 rw [List.getElem?_map] at hp hq
 obtain ⟨x, hx, rfl⟩ := Option.map_eq_some_iff.1 hp
 obtain ⟨y, hy, rfl⟩ := Option.map_eq_some_iff.1 hq
 have e1 : (dOf A)[i]? = some x.1 := by unfold dOf; rw [List.getElem?_map, hx]; rfl
 have e2 : (dOf B)[i]? = some y.1 := by unfold dOf; rw [List.getElem?_map, hy]; rfl
 rw [h, e2] at e1
 have e := Option.some.inj e1
 unfold toPt PtD.alike
 rw [e]
 exact ⟨rfl, rfl, rfl⟩

theorem Side.sl {w0 w : World} {ts : List Thing} {e : TypeId} {v : Value} {bs : List Nat} (h : Side w0 w ts) (i : Nat) (hi : ts[i]? = some (ownT e v (ub bs))) : Sl w v (ints bs) := by
 have o : w.ownsRow 0 e 1 v (ub bs).length (ub bs) := h.get i hi
 exact Sl.owned o

/-- A list of slots has one more. -/
theorem more_list {w0 w1 wn : World} {ts : List Thing} {n : Nat} {v vn bv : Value} {A : List Pv} {d : Pd} (h : Side w0 w1 (listT v A :: ts))
 (c : Chg v.ownBlock.toList w1 wn) (hn : n = A.length + 1) (ol : wn.ownsRow 0 105 3 vn n ((A.map pvSlot).flatten ++ [.int .i64 (d.m : Int), .int .i64 (d.r : Int), bv])) (nb : ∀ k, vn.ownBlock = some k → v.ownBlock = some k ∨ w1.heap.size ≤ k) :
 Side w0 wn (listT vn (A ++ [(d, bv)]) :: ts) := by
 refine h.turn c (fun k hk => .inl hk) (⟨pv_slots _, ?_⟩ : OwnW 3 wn 0 105 vn ((A ++ [(d, bv)]).map pvSlot)) (fun k hk => ?_)
 ·have e : ((A ++ [(d, bv)]).map pvSlot).flatten = (A.map pvSlot).flatten ++ [.int .i64 (d.m : Int), .int .i64 (d.r : Int), bv] := by
   rw [flat_append3]
   rfl
  rw [e, List.length_map, List.length_append, List.length_singleton, ← hn]
  exact ol
 ·have hk' : vn.ownBlock = some k := by simpa [listT, wideT] using hk
  rcases nb k hk' with q | q
  ·exact .inl (by show k ∈ v.ownBlock.toList; simp [q])
  ·exact .inr q

theorem nb_of {lvn lv : Value} {H H0 : Nat} {A : Prop} (h : lvn.ownBlock = lv.ownBlock ∨ (lvn.ownBlock = some H ∧ A)) (hH : H0 ≤ H) : ∀ k, lvn.ownBlock = some k → lv.ownBlock = some k ∨ H0 ≤ k := fun k hk => by
 rcases h with q | ⟨q, _⟩
 ·exact .inl (by rw [← q]; exact hk)
 ·rw [q] at hk
  obtain rfl : H = k := by simpa using hk
  exact .inr hH

end Go.Proofs.YtkafkdlgflkjgaaGreat
