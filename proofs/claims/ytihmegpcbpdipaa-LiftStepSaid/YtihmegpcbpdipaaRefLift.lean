/-
  The document's lift: its list, without one, the least one. By an AI agent.
-/
import Derived.Test.YtihmegpcbpdipaaGBookPts
import Derived.Test.YtihmegpcbpdipaaLfSpec
import Derived.Deep.RegionHeld3
namespace Go.Proofs.Ytihmegpcbpdipaa
open Go.RowKit

theorem wrap_in {z : Int} (h1 : -1000000000 ≤ z) (h2 : z ≤ 1000000000) : IntKind.i64.wrap z = z ∧ wrap64 z = z := by
  refine ⟨?_, ?_⟩
  · rw [IntKind.wrap_i64]; omega
  · unfold wrap64; omega

/-- An answer: memory stays as it was, but for what is new. -/
def Says (w : World) (v : Value) (e : Ending) (w' : World) : Prop := e = .returned v ∧ Hid (Chg [] w w')

/-- A patch of a lift's list: what it is, and the slice of its bytes. -/
abbrev Pv := Pd × Value

def ub (bs : List Nat) : List Value := (ints bs).map (Value.int .u8)

theorem ub_len (bs : List Nat) : (ub bs).length = bs.length := by unfold ub; rw [List.length_map, ints_length]

def pvSlot (p : Pv) : List Value := [.int .i64 (p.1.m : Int), .int .i64 (p.1.r : Int), p.2]
def pvRow (p : Pv) : Value × List Value := (p.2, ub p.1.bs)

theorem pv_slots (L : List Pv) : Slots 3 (L.map pvSlot) := fun x hx => by
  obtain ⟨p, _, rfl⟩ := List.mem_map.1 hx
  rfl

/-- Each slice of bytes is a slice. -/
def PvOk (L : List Pv) : Prop := ∀ p ∈ L, ∃ ao n c, p.2 = .slice ao n c

theorem Pool.ok {w : World} {L : List Pv} (h : Pool w (L.map pvRow)) : PvOk L := fun p hp => by
  obtain ⟨ao, c, e⟩ := ownR_slice (h.row (pvRow p) (List.mem_map_of_mem hp))
  exact ⟨ao, _, c, e⟩

theorem PvOk.one {L : List Pv} (h : PvOk L) : ∀ u ∈ (L.map pvSlot).flatten, u.oneCell' = true := fun u hu => by
  obtain ⟨x, hx, hux⟩ := List.mem_flatten.1 hu
  obtain ⟨p, hp, rfl⟩ := List.mem_map.1 hx
  obtain ⟨ao, n, c, e⟩ := h p hp
  simp only [pvSlot, List.mem_cons, List.not_mem_nil, or_false] at hux
  rcases hux with rfl | rfl | rfl
  · rfl
  · rfl
  · rw [e]; rfl

theorem flat_append3 (A B : List Pv) : ((A ++ B).map pvSlot).flatten = (A.map pvSlot).flatten ++ (B.map pvSlot).flatten := by
  rw [List.map_append, List.flatten_append]

theorem flat3_len (L : List Pv) : (L.map pvSlot).flatten.length = L.length * 3 := by
  rw [flat_len (pv_slots L), List.length_map]

/-- How a list of a lift reads. -/
theorem pv_read {w : World} {g n c : Nat} {L : List Pv} (h : RdW 3 w (.slice (some ⟨g, 0, none⟩) n c) (L.map pvSlot)) : ∀ j u, (L.map pvSlot).flatten[j]? = some u → w.cell? ⟨g, j, none⟩ = some u := by
  intro j u hj
  rcases h with ⟨h0, _⟩ | ⟨b, c', hv, hb, hc⟩
  · rw [h0] at hj; simp at hj
  · obtain ⟨rfl, -, -⟩ : g = b ∧ n = (L.map pvSlot).length ∧ c = c' := by simpa using hv
    have hjl : j < L.length * 3 := by have := (List.getElem?_eq_some_iff.1 hj).1; rw [flat3_len] at this; exact this
    obtain ⟨x, hx⟩ : ∃ x, (L.map pvSlot)[j / 3]? = some x := ⟨_, List.getElem?_eq_getElem (by rw [List.length_map]; omega)⟩
    have hxl := pv_slots L x (List.mem_of_getElem? hx)
    obtain ⟨y, hy⟩ : ∃ y, x[j % 3]? = some y := ⟨_, List.getElem?_eq_getElem (by rw [hxl]; omega)⟩
    have e := flat_at (pv_slots L) hx hy
    have ej : j / 3 * 3 + j % 3 = j := by omega
    rw [ej, hj] at e
    have := hc (j / 3) (j % 3) x y hx hy
    rw [ej] at this
    rw [this]
    exact e.symm

set_option maxHeartbeats 1000000 in
set_option maxRecDepth 100000 in
theorem without_any (w : World) (g n c at_ : Nat) (L : List Pv) (hr : RdW 3 w (.slice (some ⟨g, 0, none⟩) n c) (L.map pvSlot)) (hg : g < w.heap.size) (hn : n = L.length) (hc : n ≤ c) (hat : at_ < n) (ho : PvOk L) (hl : L.length ≤ 1000000) :
    Calls Try.prog 32 #[.slice (some ⟨g, 0, none⟩) n c, .int .i64 (at_ : Int)] w fun e w' =>
      ∃ v, e = .returned v ∧ Hid (OwnW 3 w' w.heap.size 49 v ((L.eraseIdx at_).map pvSlot)) ∧ Hid (Chg [] w w') := by
  obtain ⟨i0, hi, hz0, hz1, hz2⟩ := info_parts info_patch
  replace hi := Lib.hid hi
  replace hz0 := Lib.hid hz0
  replace hz1 := Lib.hid hz1
  replace hz2 := Lib.hid hz2
  have RD := pv_read hr
  have C1 : Hid (∀ w', Chg [] w w' → ∀ j u, ((L.take at_).map pvSlot).flatten[j]? = some u → w'.cell? ((⟨g, 0, none⟩ : Addr).add j) = some u) := fun w' ch j u hj => by
    rw [Addr.add_lit, Nat.zero_add]
    refine (ch.cell (p := ⟨g, j, none⟩) hg (by simp)).trans (RD j u ?_)
    have e : (L.map pvSlot).flatten = ((L.take at_).map pvSlot).flatten ++ ((L.drop at_).map pvSlot).flatten := by rw [← flat_append3, List.take_append_drop]
    rw [e, List.getElem?_append_left (List.getElem?_eq_some_iff.1 hj).1]
    exact hj
  have C2 : Hid (∀ w', Chg [] w w' → ∀ j u, ((L.drop (at_ + 1)).map pvSlot).flatten[j]? = some u → w'.cell? ((⟨g, (at_ + 1) * 3, none⟩ : Addr).add j) = some u) := fun w' ch j u hj => by
    rw [Addr.add_lit]
    refine (ch.cell (p := ⟨g, _, none⟩) hg (by simp)).trans (RD _ u ?_)
    have e : (L.map pvSlot).flatten = ((L.take (at_ + 1)).map pvSlot).flatten ++ ((L.drop (at_ + 1)).map pvSlot).flatten := by rw [← flat_append3, List.take_append_drop]
    have hlen : ((L.take (at_ + 1)).map pvSlot).flatten.length = (at_ + 1) * 3 := by rw [flat3_len, List.length_take, Nat.min_eq_left (by omega)]
    rw [e, List.getElem?_append_right (by rw [hlen]; omega), hlen, Nat.add_sub_cancel_left]
    exact hj
  have N1 : Hid (((L.take at_).map pvSlot).flatten.length = at_ * 3) := by show _ = _; rw [flat3_len, List.length_take, Nat.min_eq_left (by omega)]
  have N2 : Hid (((L.drop (at_ + 1)).map pvSlot).flatten.length = (n - (at_ + 1)) * 3) := by show _ = _; rw [flat3_len, List.length_drop, hn]
  have O1 : Hid (∀ u ∈ ((L.take at_).map pvSlot).flatten, u.oneCell' = true) := PvOk.one (fun p hp => ho p (List.mem_of_mem_take hp))
  have O2 : Hid (∀ u ∈ ((L.drop (at_ + 1)).map pvSlot).flatten, u.oneCell' = true) := PvOk.one (fun p hp => ho p (List.mem_of_mem_drop hp))
  have EF : Hid (((L.eraseIdx at_).map pvSlot).flatten = ((L.take at_).map pvSlot).flatten ++ ((L.drop (at_ + 1)).map pvSlot).flatten) := by
    show _ = _
    rw [← flat_append3, List.eraseIdx_eq_take_drop_succ]
  have EL : Hid (((L.eraseIdx at_).map pvSlot).length = at_ + (n - (at_ + 1))) := by
    show _ = _
    rw [List.length_map, List.length_eraseIdx_of_lt (by omega)]
    omega
  obtain ⟨k, hk⟩ : ∃ k, k = n - (at_ + 1) := ⟨_, rfl⟩
  rw [← hk] at N2 EL
  have hk2 : at_ + 1 + k = n := by omega
  generalize ((L.take at_).map pvSlot).flatten = T1 at *
  generalize ((L.drop (at_ + 1)).map pvSlot).flatten = T2 at *
  have HB : Hid (at_ + k + 1 ≤ 1000000) := by show _ ≤ _; omega
  have OW : Hid (∀ w' v, w'.ownsRow w.heap.size 49 3 v (at_ + k) (T1 ++ T2) → OwnW 3 w' w.heap.size 49 v ((L.eraseIdx at_).map pvSlot)) := fun w' v h => ⟨pv_slots _, by rw [EF.out, EL.out]; exact h⟩
  have a0 : (0 : Int) ≤ (at_ : Int) := Int.natCast_nonneg _
  have a1 : (at_ : Int) ≤ (c : Int) := by omega
  obtain ⟨s1, hs1⟩ : ∃ s1, s1 = at_ + 1 := ⟨_, rfl⟩
  have a2 : (at_ : Int) + 1 = (s1 : Int) := by omega
  have a3 : (s1 : Int) ≤ (n : Int) := by omega
  have a4 : (n : Int) ≤ (c : Int) := by omega
  have a5 : (0 : Int) ≤ (s1 : Int) := Int.natCast_nonneg _
  have wk := Lib.hid (wrap_in (z := (s1 : Int)) (by omega) (by omega))
  have a6 : (n : Int) - (s1 : Int) = (k : Int) := by omega
  have a7 : n - s1 = k := by omega
  rw [← hs1] at C2
  clear hr RD hn hat ho hl hk EL EF hs1 hk2
  have B1 : Hid (0 + at_ ≤ maxLen) := by have := HB.out; show _ ≤ _; unfold maxLen; omega
  have B2 : Hid ((0 + at_) * 40 ≤ 140737488355328) := by have := HB.out; show _ ≤ _; omega
  have B3 : Hid (at_ + k ≤ maxLen) := by have := HB.out; show _ ≤ _; unfold maxLen; omega
  have B4 : Hid ((at_ + k) * 40 ≤ 140737488355328) := by have := HB.out; show _ ≤ _; omega
  by_cases hcs : c = s1
  · obtain rfl : k = 0 := by omega
    have hT : T2 = [] := List.eq_nil_of_length_eq_zero (by have := N2.out; omega)
    subst hT
    have CE : Hid (∀ (w' : World) (ad : Addr), Chg [] w w' → ∀ (j : Nat) (u : Value), ([] : List Value)[j]? = some u → w'.cell? (ad.add j) = some u) := fun w' ad _ j u hj => by simp at hj
    obtain ⟨wk1, wk2⟩ := wk.out
    subst hcs
    go_enter Try.func32, Try.ntmps32
    go_wp2_with (first | (at_builtin; refine wpList_append_three _ rfl (.tmp 6) (.tmp 9) 56 rfl w.heap.size 49 i0 (.agg #[.int .i64 0, .int .i64 0, .slice none 0 0]) 3 40 Try.underlying56 hi.out hz0.out hz1.out hz2.out rfl (by decide) (.slice none 0 0) 0 [] rfl (World.ownsRow_nil _ _ _ _) ⟨g, 0, none⟩ at_ _ T1 rfl N1.out (C1.out _ (Chg.refl _ _)) O1.out B1.out B2.out (Nat.le_refl _) ?_; intro v1 w1 ol gr nb; have D1 : Hid (Chg [] w w1) := (Chg.refl _ w).grown gr.out (fun k hk => by cases hk); clear gr nb; rw [Nat.zero_add, List.nil_append] at ol; obtain ⟨vo, vc, rfl⟩ := owns_slice ol.out) | (at_builtin; refine wpList_append_three _ rfl (.tmp 11) (.tmp 15) 56 rfl w.heap.size 49 i0 (.agg #[.int .i64 0, .int .i64 0, .slice none 0 0]) 3 40 Try.underlying56 hi.out hz0.out hz1.out hz2.out rfl (by decide) _ at_ _ rfl ol.out _ 0 _ [] rfl rfl (CE.out _ _ D1.out) O2.out B3.out B4.out D1.out.size ?_; intro v2 w2 ol2 gr2 nb2; have D2 := Lib.hid (D1.out.grown gr2.out (fun k hk => .inr (ol.out.lt k hk).1)); clear gr2 nb2 ol))
    go_ret
    exact ⟨_, rfl, OW.out _ _ ol2.out, D2⟩
  · have hcs2 : ¬ (c : Int) = (s1 : Int) := by omega
    obtain ⟨wk1, wk2⟩ := wk.out
    go_enter Try.func32, Try.ntmps32
    go_wp2_with (first | (at_builtin; refine wpList_append_three _ rfl (.tmp 6) (.tmp 9) 56 rfl w.heap.size 49 i0 (.agg #[.int .i64 0, .int .i64 0, .slice none 0 0]) 3 40 Try.underlying56 hi.out hz0.out hz1.out hz2.out rfl (by decide) (.slice none 0 0) 0 [] rfl (World.ownsRow_nil _ _ _ _) ⟨g, 0, none⟩ at_ _ T1 rfl N1.out (C1.out _ (Chg.refl _ _)) O1.out B1.out B2.out (Nat.le_refl _) ?_; intro v1 w1 ol gr nb; have D1 : Hid (Chg [] w w1) := (Chg.refl _ w).grown gr.out (fun k hk => by cases hk); clear gr nb; rw [Nat.zero_add, List.nil_append] at ol; obtain ⟨vo, vc, rfl⟩ := owns_slice ol.out) | (at_builtin; refine wpList_append_three _ rfl (.tmp 11) (.tmp 15) 56 rfl w.heap.size 49 i0 (.agg #[.int .i64 0, .int .i64 0, .slice none 0 0]) 3 40 Try.underlying56 hi.out hz0.out hz1.out hz2.out rfl (by decide) _ at_ _ rfl ol.out ⟨g, s1 * 3, none⟩ k _ T2 rfl N2.out (C2.out _ D1.out) O2.out B3.out B4.out D1.out.size ?_; intro v2 w2 ol2 gr2 nb2; have D2 := Lib.hid (D1.out.grown gr2.out (fun k hk => .inr (ol.out.lt k hk).1)); clear gr2 nb2 ol))
    go_ret
    exact ⟨_, rfl, OW.out _ _ ol2.out, D2⟩

end Go.Proofs.Ytihmegpcbpdipaa
