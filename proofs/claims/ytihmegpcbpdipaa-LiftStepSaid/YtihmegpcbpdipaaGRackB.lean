/-
  A book of lists that came out: its racks stand beside its own block. By an AI agent.
-/
import Derived.Test.YtihmegpcbpdipaaGSide
import Derived.Test.YtihmegpcbpdipaaGOwnBytes
import Derived.Test.YtihmegpcbpdipaaGNats
namespace Go.Proofs.Ytihmegpcbpdipaa
open Go.RowKit

/-- A list of lists that came out, each in memory of its own. -/
structure Rack (w : World) (e le : TypeId) (lv : Value) (vs : List (Value × List Value)) : Prop where
  own : w.ownsRow 0 le 1 lv vs.length (vs.map (·.1))
  row : ∀ (j : Nat) (v : Value) (xs : List Value), vs[j]? = some (v, xs) → OwnR w 0 v xs.length xs
  apart : ∀ (i j : Nat) (v : Value) (xs : List Value) (v' : Value) (xs' : List Value) (g : Nat), i ≠ j → vs[i]? = some (v, xs) → vs[j]? = some (v', xs') → v.ownBlock = some g → v'.ownBlock ≠ some g
  list : ∀ (j : Nat) (v : Value) (xs : List Value) (g : Nat), vs[j]? = some (v, xs) → v.ownBlock = some g → lv.ownBlock ≠ some g

def rackT (e le : TypeId) (lv : Value) (vs : List (Value × List Value)) : Thing where
  F := lv.ownBlock.toList ++ rowsOf vs
  P := fun w => Rack w e le lv vs
  lt := fun w h k hk => by
    rcases List.mem_append.1 hk with hk | hk
    · exact (h.own.lt k (by simpa using hk)).2
    · obtain ⟨j, v, xs, hj, hg⟩ := rowsOf_spec hk
      exact ((h.row j v xs hj).lt k hg).2
  stays := fun w w' s h c hs => ⟨owns_chg h.own c (fun k hk => hs k (List.mem_append_left _ (by simp [hk]))), fun j v xs hj => (h.row j v xs hj).chg c (fun k hk => hs k (List.mem_append_right _ (rowsOf_mem hj hk))), h.apart, h.list⟩

theorem Rack.nil (w : World) (e le : TypeId) : Rack w e le (.slice none 0 0) [] := ⟨World.ownsRow_nil _ _ _ _, fun j v xs hj => by simp at hj, fun i j v xs v' xs' g _ hi => by simp at hi, fun j v xs g hj => by simp at hj⟩

theorem rowsOf_append (a b : List (Value × List Value)) : rowsOf (a ++ b) = rowsOf a ++ rowsOf b := by simp [rowsOf]

/-- One list more in the rack: behind the append. -/
theorem Side.shelve {w0 w wn : World} {ts : List Thing} {e0 e le : TypeId} {lv lv' v : Value} {vs : List (Value × List Value)} {xs : List Value} {x : Obj} (h : Side w0 w (ownT e0 v xs :: rackT e le lv vs :: ts))
    (ol : wn.ownsRow 0 le 1 lv' (vs.length + 1) (vs.map (·.1) ++ [v])) (gr : (w.alloc x).grownBy wn lv.ownBlock) (nb : lv'.ownBlock = lv.ownBlock ∨ (lv'.ownBlock = some (w.heap.size + 1) ∧ (w.alloc x).grownBy wn none)) :
    Side w0 wn (rackT e le lv' (vs ++ [(v, xs)]) :: ts) := by
  have hv : w.ownsRow 0 e0 1 v xs.length xs := h.get 0 rfl
  have hr : Rack w e le lv vs := h.get 1 rfl
  have hoff : ∀ k, v.ownBlock = some k → k ∉ lv.ownBlock.toList ++ rowsOf vs := fun k hk hm => (List.pairwise_cons.1 h.apart).1 _ List.mem_cons_self k (by simp [ownT, hk]) hm
  have c1 : Chg lv.ownBlock.toList w wn := (((Chg.refl [] w).alloc x).mono (by simp)).grown gr (fun k hk => .inl (by rw [hk]; simp))
  have lvn : ∀ k, lv'.ownBlock = some k → lv.ownBlock = some k ∨ w.heap.size ≤ k := fun k hk => by
    rcases nb with q | ⟨q, _⟩
    · rw [q] at hk; exact .inl hk
    · rw [q] at hk; simp at hk; exact .inr (by omega)
  have lst : ∀ (j : Nat) (v' : Value) (xs' : List Value), (vs ++ [(v, xs)])[j]? = some (v', xs') → (vs[j]? = some (v', xs') ∧ j < vs.length) ∨ (j = vs.length ∧ v' = v ∧ xs' = xs) := fun j v' xs' hj => by
    by_cases hjl : j < vs.length
    · rw [List.getElem?_append_left hjl] at hj; exact .inl ⟨hj, hjl⟩
    · have hj2 : j < (vs ++ [(v, xs)]).length := (List.getElem?_eq_some_iff.1 hj).1
      obtain rfl : j = vs.length := by simp at hj2; omega
      rw [List.getElem?_append_right (Nat.le_refl _), Nat.sub_self] at hj
      have := Option.some.inj hj
      simp only [Prod.mk.injEq] at this
      exact .inr ⟨rfl, this.1.symm, this.2.symm⟩
  refine h.join c1 (fun k hk => .inr (.inl (List.mem_append_left _ hk))) ⟨?_, fun j v' xs' hj => ?_, fun i j v1 xs1 v2 xs2 g hij hi hj h1 h2 => ?_, fun j v' xs' g hj h1 h2 => ?_⟩ (fun k hk => ?_)
  · simpa using ol
  · rcases lst j v' xs' hj with ⟨q, _⟩ | ⟨_, rfl, rfl⟩
    · exact (hr.row j v' xs' q).chg c1 (fun k hk hm => hr.list j v' xs' k q hk (by simpa using hm))
    · exact ⟨e0, owns_chg hv c1 (fun k hk hm => hoff k hk (List.mem_append_left _ hm))⟩
  · rcases lst i v1 xs1 hi with ⟨q, _⟩ | ⟨qi, rfl, rfl⟩
    · rcases lst j v2 xs2 hj with ⟨q2, _⟩ | ⟨qj, rfl, rfl⟩
      · exact hr.apart i j v1 xs1 v2 xs2 g hij q q2 h1 h2
      · exact hoff g h2 (List.mem_append_right _ (rowsOf_mem q h1))
    · rcases lst j v2 xs2 hj with ⟨q2, _⟩ | ⟨qj, _, _⟩
      · exact hoff g h1 (List.mem_append_right _ (rowsOf_mem q2 h2))
      · omega
  · rcases lst j v' xs' hj with ⟨q, _⟩ | ⟨_, rfl, rfl⟩
    · rcases lvn g h2 with q2 | q2
      · exact hr.list j v' xs' g q h1 q2
      · have := ((hr.row j v' xs' q).lt g h1).2
        omega
    · rcases lvn g h2 with q2 | q2
      · exact hoff g h1 (List.mem_append_left _ (by simp [q2]))
      · have := (hv.lt g h1).2
        omega
  · rcases List.mem_append.1 hk with hk | hk
    · rcases lvn k (by simpa using hk) with q | q
      · exact .inr (.inl (List.mem_append_left _ (by simp [q])))
      · exact .inr (.inr q)
    · rw [rowsOf_append] at hk
      rcases List.mem_append.1 hk with hk | hk
      · exact .inr (.inl (List.mem_append_right _ hk))
      · refine .inl ?_
        obtain ⟨j, v', xs', hj, hg⟩ := rowsOf_spec hk
        have : v' = v := by
          have := List.mem_of_getElem? hj
          simp at this
          exact this.1
        subst this
        simp [ownT, hg]

theorem Rack.owns {w : World} {e le : TypeId} {g c : Nat} {vs : List (Value × List Value)} (h : Rack w e le (.slice (some ⟨g, 0, none⟩) vs.length c) vs) (hg : g < w.heap.size) : Owns w 0 e g 0 vs :=
  ⟨fun j v xs hj => by rw [Nat.zero_add]; exact ownsRow_cellAt h.own (by rw [List.getElem?_map, hj]; rfl), h.row, h.apart, fun j v xs hj hk => h.list j v xs g hj hk rfl, hg⟩

set_option maxHeartbeats 1000000 in
set_option maxRecDepth 100000 in
theorem bookBytes_side {w0 w : World} {ts : List Thing} {e0 : TypeId} {b : Nat} {cs : List Value} {lv v : Value} {vs : List (Value × List Value)} {xs : List Value} (h : Side w0 w (ownT e0 v xs :: rackT 5 47 lv vs :: blkT b 46 cs :: ts)) (hc : cs[0]? = some lv) (hl : vs.length ≤ 1000000) :
    Calls Try.prog 12 #[.pointer (some ⟨b, 0, none⟩), v] w fun e w' => e = .returned (.tuple #[]) ∧ ∃ lv', Hid (Side w0 w' (rackT 5 47 lv' (vs ++ [(v, xs)]) :: blkT b 46 (cs.set 0 lv') :: ts)) := by
  obtain ⟨j0, ki, kz0, kz1, kz2⟩ := info_parts info_bytes
  replace ki := Lib.hid ki
  replace kz0 := Lib.hid kz0
  replace kz1 := Lib.hid kz1
  replace kz2 := Lib.hid kz2
  have hv : w.ownsRow 0 e0 1 v xs.length xs := h.get 0 rfl
  have hr : Rack w 5 47 lv vs := h.get 1 rfl
  have hb : Blk w b 46 cs := h.get 2 rfl
  obtain ⟨vo, vc, rfl⟩ := owns_slice hv
  obtain ⟨lo, lc, rfl⟩ := owns_slice hr.own
  have c0 := hb.cell hc
  have RO := Lib.hid hr.own
  have H := Lib.hid h
  have HC := Lib.hid hc
  have hci : 0 < cs.length := (List.getElem?_eq_some_iff.1 hc).1
  clear hv hr hb h hc
  go_enter Try.func12, Try.ntmps12
  go_wp2_with (with_reducible refine wpList_append_three _ rfl (.tmp 8) (.tmp 10) 33 rfl 0 47 j0 (.slice none 0 0) 1 24 Try.underlying33 ki.out kz0.out kz1.out kz2.out rfl (by decide) _ vs.length _ rfl (RO.out.alloc _) ⟨w.heap.size, 0, none⟩ 1 1 [.slice vo xs.length vc] rfl rfl (new_cell _ _ _) (by simp [Value.oneCell']) (by unfold maxLen; omega) (by omega) (Nat.zero_le _) ?_)
  intro lv' wn ol gr nb
  have H2 := Lib.hid (H.out.shelve ol.out gr.out nb.out)
  have hb2 : Blk wn b 46 cs := H2.out.get 1 rfl
  have c1 : wn.cell? ⟨b, 0, none⟩ = some (.slice lo vs.length lc) := hb2.cell HC.out
  have f1 := hb2.free 0
  obtain ⟨no, nc, rfl⟩ := owns_slice ol.out
  have H3 : Hid (Side w0 (wn.setCell ⟨b, 0, none⟩ (.slice no (vs.length + 1) nc)) (rackT 5 47 (.slice no (vs.length + 1) nc) (vs ++ [(.slice vo xs.length vc, xs)]) :: blkT b 46 (cs.set 0 (.slice no (vs.length + 1) nc)) :: ts)) :=
    H2.out.turnAt 1 rfl (s := [b]) ((Chg.refl _ _).setCell (.inl (by simp)) _) (fun k hk => .inl hk) (hb2.set 0 _) (fun k hk => .inl hk)
  clear ol gr nb hb2 H2 H RO c0
  go_wp2_with fail
  go_end0
  exact ⟨rfl, _, H3⟩

theorem ownBytes_rack {w : World} {lv : Value} {vs : List (Value × List Value)} (h : Rack w 5 47 lv vs) (hl : vs.length ≤ 1000000) (hlen : ∀ p ∈ vs, p.2.length ≤ 140737488355000) :
    Calls Try.prog 38 #[lv] w fun e w' => e = .returned (.bool true) ∧ Chg (rowsOf vs) w w' := by
  obtain ⟨lo, lc, rfl⟩ := owns_slice h.own
  rcases h.own.2 with ⟨hv, h0⟩ | ⟨g, cap, cur, hv, _, hg, _⟩
  · obtain ⟨rfl, h1, rfl⟩ : lo = none ∧ vs.length = 0 ∧ lc = 0 := by simpa using hv
    rw [h1]
    exact (own8_nil none 0 w).mono fun e w' ⟨he, hw⟩ => ⟨he, by rw [← hw]; exact Chg.refl _ _⟩
  · obtain ⟨rfl, rfl⟩ : lo = some ⟨g, 0, none⟩ ∧ lc = cap := by simpa using hv
    exact own8_any 0 g 0 lc vs w (h.owns (Array.getElem?_eq_some_iff.1 hg).1) hl (Nat.zero_le _) (fun j v xs hj => hlen _ (List.mem_of_getElem? hj))

end Go.Proofs.Ytihmegpcbpdipaa
