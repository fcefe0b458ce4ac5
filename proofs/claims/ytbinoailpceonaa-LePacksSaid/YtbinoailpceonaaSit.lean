/-
  Two packers, the document's, and the book, side by side in memory. By an AI agent.
-/
import Derived.Test.YtbinoailpceonaaTold
namespace Go.Proofs.Ytbinoailpceonaa
open Go.RowKit

structure Sit (W w : World) (b1 g1 b2 g2 b3 b4 : Nat) (s1 s2 : PS) (hv : Value) (r : RP) (lv : Value) (vs : List (Value × List Value)) : Prop where
  p1 : Pk w b1 g1 s1
  p2 : Pk w b2 g2 s2
  rp : Rp w b3 hv r
  bk : Bk w b4 lv vs
  n1 : Bk.not b4 lv vs b1
  m1 : Bk.not b4 lv vs g1
  n2 : Bk.not b4 lv vs b2
  m2 : Bk.not b4 lv vs g2
  n3 : Bk.not b4 lv vs b3
  nh : ∀ k, hv.ownBlock = some k → Bk.not b4 lv vs k
  dd : W.heap.size ≤ b1 ∧ W.heap.size ≤ g1 ∧ b1 < b2 ∧ b1 < g2 ∧ g1 < b2 ∧ g1 < g2 ∧ b2 < b3 ∧ g2 < b3 ∧ b3 < b4
  len : ∀ (j : Nat) (v : Value) (xs : List Value), vs[j]? = some (v, xs) → xs.length ≤ 140737488355000
  chg : Chg [] W w

variable {W w w' : World} {b1 g1 b2 g2 b3 b4 : Nat} {s1 s2 : PS} {hv : Value} {r : RP} {lv : Value} {vs : List (Value × List Value)}

theorem Sit.free (h : Sit W w b1 g1 b2 g2 b3 b4 s1 s2 hv r lv vs) (c : Chg [] w w') : Sit W w' b1 g1 b2 g2 b3 b4 s1 s2 hv r lv vs :=
  ⟨h.p1.chg c (by simp) (by simp), h.p2.chg c (by simp) (by simp), h.rp.chg c (by simp) (by simp), h.bk.chg c (by simp), h.n1, h.m1, h.n2, h.m2, h.n3, h.nh, h.dd, h.len, h.chg.trans c⟩

theorem Sit.one (h : Sit W w b1 g1 b2 g2 b3 b4 s1 s2 hv r lv vs) {s : PS} (p : Pk w' b1 g1 s) (c : Chg [b1, g1] w w') : Sit W w' b1 g1 b2 g2 b3 b4 s s2 hv r lv vs := by
  have d := h.dd
  refine ⟨p, h.p2.chg c (by simp; omega) (by simp; omega), h.rp.chg c (by simp; omega) (fun k hk => by have := (h.rp.own.lt k hk).1; simp; omega), h.bk.chg c (fun k hk => ?_), h.n1, h.m1, h.n2, h.m2, h.n3, h.nh, h.dd, h.len, h.chg.fresh c (by simp; omega)⟩
  simp at hk
  rcases hk with rfl | rfl
  · exact h.n1
  · exact h.m1

theorem Sit.two (h : Sit W w b1 g1 b2 g2 b3 b4 s1 s2 hv r lv vs) {s : PS} (p : Pk w' b2 g2 s) (c : Chg [b2, g2] w w') : Sit W w' b1 g1 b2 g2 b3 b4 s1 s hv r lv vs := by
  have d := h.dd
  refine ⟨h.p1.chg c (by simp; omega) (by simp; omega), p, h.rp.chg c (by simp; omega) (fun k hk => by have := (h.rp.own.lt k hk).1; simp; omega), h.bk.chg c (fun k hk => ?_), h.n1, h.m1, h.n2, h.m2, h.n3, h.nh, h.dd, h.len, h.chg.fresh c (by simp; omega)⟩
  simp at hk
  rcases hk with rfl | rfl
  · exact h.n2
  · exact h.m2

theorem Sit.ref (h : Sit W w b1 g1 b2 g2 b3 b4 s1 s2 hv r lv vs) {r' : RP} {hv' : Value} (s : RpStep w b3 hv r' w' hv') : Sit W w' b1 g1 b2 g2 b3 b4 s1 s2 hv' r' lv vs := by
  have d := h.dd
  have hm : ∀ k, k ∈ b3 :: hv.ownBlock.toList → b3 ≤ k ∧ Bk.not b4 lv vs k := fun k hk => by
    rcases List.mem_cons.1 hk with rfl | hk
    · exact ⟨Nat.le_refl _, h.n3⟩
    · have hk' : hv.ownBlock = some k := by simpa using hk
      exact ⟨by have := (h.rp.own.lt k hk').1; omega, h.nh k hk'⟩
  have hlt : ∀ k, k < b3 → k ∉ b3 :: hv.ownBlock.toList := fun k hk hn => by have := (hm k hn).1; omega
  refine ⟨h.p1.chg s.chg (hlt _ (by omega)) (hlt _ (by omega)), h.p2.chg s.chg (hlt _ (by omega)) (hlt _ (by omega)), s.rp, h.bk.chg s.chg (fun k hk => (hm k hk).2), h.n1, h.m1, h.n2, h.m2, h.n3, fun k hk => ?_, h.dd, h.len, h.chg.fresh s.chg (fun k hk => .inr (by have := (hm k hk).1; omega))⟩
  rcases s.blk with q | ⟨k', q, hge⟩
  · rw [q] at hk; exact h.nh k hk
  · rw [q] at hk
    obtain rfl : k' = k := by simpa using hk
    exact h.bk.fresh hge

theorem Sit.told (h : Sit W w b1 g1 b2 g2 b3 b4 s1 s2 hv r lv vs) {e : Ending} (t : Told w b4 lv vs e w') : e = .returned (.bool true) ∧ ∃ lv' vs', vs'.length = vs.length + 1 ∧ Sit W w' b1 g1 b2 g2 b3 b4 s1 s2 hv r lv' vs' := by
  obtain ⟨rfl, lv', v, xs, hb, hx, hc, hn⟩ := t
  have d := h.dd
  have hm : ∀ k, Bk.not b4 lv vs k → k ∉ b4 :: lv.ownBlock.toList := fun k hk hm => by
    rcases List.mem_cons.1 hm with q | q
    · exact hk.1 q
    · exact hk.2.1 (by simpa using q)
  refine ⟨rfl, lv', vs ++ [(v, xs)], by simp, h.p1.chg hc (hm _ h.n1) (hm _ h.m1), h.p2.chg hc (hm _ h.n2) (hm _ h.m2), h.rp.chg hc (hm _ h.n3) (fun k hk => hm _ (h.nh k hk)), hb, hn _ h.p1.pb.lt h.n1, hn _ h.p1.pg.lt h.m1, hn _ h.p2.pb.lt h.n2, hn _ h.p2.pg.lt h.m2, hn _ h.rp.pb.lt h.n3, fun k hk => hn _ (h.rp.own.lt k hk).2 (h.nh k hk), h.dd, fun j v' xs' hj => ?_, h.chg.fresh hc (fun k hk => .inr ?_)⟩
  · by_cases hjl : j < vs.length
    · rw [List.getElem?_append_left hjl] at hj
      exact h.len j v' xs' hj
    · have hj2 : j < (vs ++ [(v, xs)]).length := (List.getElem?_eq_some_iff.1 hj).1
      obtain rfl : j = vs.length := by simp at hj2; omega
      rw [List.getElem?_append_right (Nat.le_refl _), Nat.sub_self] at hj
      have := Option.some.inj hj
      simp only [Prod.mk.injEq] at this
      rw [← this.2]
      omega
  · rcases List.mem_cons.1 hk with rfl | q
    · omega
    · have := (h.bk.own.lt k (by simpa using q)).1
      omega

/-- A block that was new is none of theirs. -/
structure SitNew (W : World) (b1 g1 b2 g2 b3 b4 : Nat) (hv lv : Value) (vs : List (Value × List Value)) (g : Nat) : Prop where
  ge : W.heap.size ≤ g
  q1 : b1 ≠ g
  q2 : g1 ≠ g
  q3 : b2 ≠ g
  q4 : g2 ≠ g
  q5 : b3 ≠ g
  qh : ∀ k, hv.ownBlock = some k → k ≠ g
  nb : Bk.not b4 lv vs g

theorem Sit.new (h : Sit W w b1 g1 b2 g2 b3 b4 s1 s2 hv r lv vs) {g : Nat} (hg : w.heap.size ≤ g) : SitNew W b1 g1 b2 g2 b3 b4 hv lv vs g :=
  ⟨Nat.le_trans h.chg.size hg, by have := h.p1.pb.lt; omega, by have := h.p1.pg.lt; omega, by have := h.p2.pb.lt; omega, by have := h.p2.pg.lt; omega, by have := h.rp.pb.lt; omega, fun k hk => by have := (h.rp.own.lt k hk).2; omega, h.bk.fresh hg⟩

theorem Sit.spoil (h : Sit W w b1 g1 b2 g2 b3 b4 s1 s2 hv r lv vs) {g : Nat} (n : SitNew W b1 g1 b2 g2 b3 b4 hv lv vs g) (c : Chg [g] w w') : Sit W w' b1 g1 b2 g2 b3 b4 s1 s2 hv r lv vs :=
  ⟨h.p1.chg c (by simpa using n.q1) (by simpa using n.q2), h.p2.chg c (by simpa using n.q3) (by simpa using n.q4), h.rp.chg c (by simpa using n.q5) (fun k hk => by simpa using n.qh k hk), h.bk.chg c (fun k hk => by simp at hk; subst hk; exact n.nb), h.n1, h.m1, h.n2, h.m2, h.n3, h.nh, h.dd, h.len, h.chg.fresh c (fun k hk => .inr (by simp at hk; subst hk; exact n.ge))⟩

end Go.Proofs.Ytbinoailpceonaa
