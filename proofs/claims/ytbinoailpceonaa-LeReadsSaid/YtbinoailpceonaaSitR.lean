/-
  'wants'; a reader, the document's, and the book, side by side in memory. By an AI agent.
-/
import Derived.Test.YtbinoailpceonaaRefReadNew
import Derived.Test.YtbinoailpceonaaTold
namespace Go.Proofs.Ytbinoailpceonaa
open Go.RowKit

set_option maxHeartbeats 1000000 in
set_option maxRecDepth 100000 in
theorem wants_any (b : Nat) (rv : Value) (s : RS) (d : OpD) (w : World) (h : Rr w b rv s) (hd : d.ok) :
    Calls Try.prog 26 #[.pointer (some ⟨b, 0, none⟩), d.val] w (WantsR w b rv (d.num s) (d.list s) (d.step s)) := by
  obtain ⟨k, v, n, dv, bs⟩ := d
  unfold OpD.val OpD.num OpD.list OpD.step
  simp only
  by_cases k1 : k = 1
  · rw [if_pos k1, if_pos k1, if_neg (by omega)]
    exact wants_num b rv s k v n dv 1 w h (.inl ⟨k1, rfl⟩)
  rw [if_neg k1, if_neg k1]
  by_cases k2 : k = 2
  · rw [if_pos k2, if_pos k2, if_neg (by omega)]
    exact wants_num b rv s k v n dv 2 w h (.inr (.inl ⟨k2, rfl⟩))
  rw [if_neg k2, if_neg k2]
  by_cases k3 : k = 3
  · rw [if_pos k3, if_pos k3, if_neg (by omega)]
    exact wants_num b rv s k v n dv 4 w h (.inr (.inr (.inl ⟨k3, rfl⟩)))
  rw [if_neg k3, if_neg k3]
  by_cases k4 : k = 4
  · rw [if_pos k4, if_pos k4, if_neg (by omega)]
    exact wants_num b rv s k v n dv 8 w h (.inr (.inr (.inr ⟨k4, rfl⟩)))
  rw [if_neg k4, if_neg k4]
  have hc : Chg [] w (w.alloc (.cells #[.int .i64 k, .int .u64 v, .int .i64 n, dv] 51)) := (Chg.refl _ _).alloc _
  have P := Lib.hid (h.chg hc (by simp) (by simp))
  have C := Lib.hid hc
  have hn := hd.n0.2
  clear h hc hd
  by_cases k5 : k = 5
  · rw [if_pos k5, if_pos k5]
    subst k5
    clear k1 k2 k3 k4
    have hu := refRawR_any b rv s n _ P.out hn
    go_enter Try.func26, Try.ntmps26
    go_wp2_with fail
    refine hu.mono ?_
    rintro e w1 ⟨lv, rfl, ho, hf, hr, hc⟩
    have O := Lib.hid ho
    have F := Lib.hid hf
    have Q := Lib.hid hr
    have D := Lib.hid hc
    clear ho hf hr hc hu
    go_wp2_with fail
    go_ret2
    exact ⟨_, rfl, O.out, fun k hk => Nat.le_trans C.out.size (F.out k hk), Q.out, (C.out.mono (by simp)).trans D.out⟩
  rw [if_neg k5, if_neg k5]
  have b1 : (k == 1) = false := by simpa using k1
  have b2 : (k == 2) = false := by simpa using k2
  have b3 : (k == 3) = false := by simpa using k3
  have b4 : (k == 4) = false := by simpa using k4
  have b5 : (k == 5) = false := by simpa using k5
  clear k1 k2 k3 k4 k5
  by_cases k6 : k = 6
  · rw [if_pos k6]
    subst k6
    have hu := refNoughts_any b rv s n _ P.out hn
    go_enter Try.func26, Try.ntmps26
    go_wp2_with fail
    refine hu.mono ?_
    rintro e w1 ⟨rfl, hr, hc⟩
    have Q := Lib.hid hr
    have D := Lib.hid hc
    clear hr hc hu
    go_wp2_with fail
    go_ret2
    exact ⟨_, rfl, .inl ⟨rfl, _, _, rfl⟩, (fun k hk => by cases hk), Q.out, (C.out.mono (by simp)).trans D.out⟩
  rw [if_neg k6]
  have b6 : (k == 6) = false := by simpa using k6
  clear k6
  go_enter Try.func26, Try.ntmps26
  go_wp2_with fail
  go_ret2
  exact ⟨_, rfl, .inl ⟨rfl, _, _, rfl⟩, (fun k hk => by cases hk), P.out, C.out.mono (by simp)⟩

theorem RS.next_xs (s : RS) (n : Nat) : (s.next n).xs = s.xs := by unfold RS.next; split <;> (try split) <;> rfl
theorem RS.skip_xs (s : RS) (n : Nat) : (s.skip n).xs = s.xs := by
  unfold RS.skip
  split
  · exact RS.next_xs s n
  · rfl
theorem OpD.step_xs (d : OpD) (s : RS) : (d.step s).xs = s.xs := by
  unfold OpD.step
  repeat' split
  all_goals first | exact RS.next_xs _ _ | exact RS.skip_xs _ _ | rfl

theorem RS.got_le (s : RS) (n : Nat) : (s.got n).length ≤ s.xs.length := by
  unfold RS.got
  split
  · split
    · simp; omega
    · simp
  · simp
theorem OpD.list_le (d : OpD) (s : RS) : (d.list s).length ≤ s.xs.length := by
  unfold OpD.list
  split
  · exact RS.got_le _ _
  · simp

structure SitR (W w : World) (b : Nat) (v : Value) (b3 : Nat) (v3 : Value) (b4 : Nat) (s s3 : RS) (lv : Value) (vs : List (Value × List Value)) : Prop where
  rd : Rd w b v s
  rr : Rr w b3 v3 s3
  bk : Bk w b4 lv vs
  n1 : Bk.not b4 lv vs b
  nv : ∀ k, v.ownBlock = some k → Bk.not b4 lv vs k
  n3 : Bk.not b4 lv vs b3
  nv3 : ∀ k, v3.ownBlock = some k → Bk.not b4 lv vs k
  dd : W.heap.size ≤ b ∧ W.heap.size ≤ b3 ∧ W.heap.size ≤ b4 ∧ b ≠ b3
  dv : ∀ k, v.ownBlock = some k → k ≠ b3 ∧ k < w.heap.size
  dv3 : ∀ k, v3.ownBlock = some k → k ≠ b ∧ k < w.heap.size
  len : ∀ (j : Nat) (v : Value) (xs : List Value), vs[j]? = some (v, xs) → xs.length ≤ 140737488355000
  chg : Chg [] W w

variable {W w w' : World} {b b3 b4 : Nat} {v v3 lv : Value} {s s3 : RS} {vs : List (Value × List Value)}

theorem SitR.free (h : SitR W w b v b3 v3 b4 s s3 lv vs) (c : Chg [] w w') : SitR W w' b v b3 v3 b4 s s3 lv vs :=
  ⟨h.rd.chg c (by simp) (by simp), h.rr.chg c (by simp) (by simp), h.bk.chg c (by simp), h.n1, h.nv, h.n3, h.nv3, h.dd, fun k hk => ⟨(h.dv k hk).1, Nat.lt_of_lt_of_le (h.dv k hk).2 c.size⟩, fun k hk => ⟨(h.dv3 k hk).1, Nat.lt_of_lt_of_le (h.dv3 k hk).2 c.size⟩, h.len, h.chg.trans c⟩

theorem SitR.one (h : SitR W w b v b3 v3 b4 s s3 lv vs) {s' : RS} (p : Rd w' b v s') (c : Chg [b] w w') : SitR W w' b v b3 v3 b4 s' s3 lv vs := by
  have d := h.dd
  exact ⟨p, h.rr.chg c (by simp; omega) (fun k hk => by simpa using (h.dv3 k hk).1), h.bk.chg c (fun k hk => by simp at hk; subst hk; exact h.n1), h.n1, h.nv, h.n3, h.nv3, h.dd, fun k hk => ⟨(h.dv k hk).1, Nat.lt_of_lt_of_le (h.dv k hk).2 c.size⟩, fun k hk => ⟨(h.dv3 k hk).1, Nat.lt_of_lt_of_le (h.dv3 k hk).2 c.size⟩, h.len, h.chg.fresh c (by simp; omega)⟩

theorem SitR.ref (h : SitR W w b v b3 v3 b4 s s3 lv vs) {s' : RS} (p : Rr w' b3 v3 s') (c : Chg [b3] w w') : SitR W w' b v b3 v3 b4 s s' lv vs := by
  have d := h.dd
  exact ⟨h.rd.chg c (by simp; omega) (fun k hk => by simpa using (h.dv k hk).1), p, h.bk.chg c (fun k hk => by simp at hk; subst hk; exact h.n3), h.n1, h.nv, h.n3, h.nv3, h.dd, fun k hk => ⟨(h.dv k hk).1, Nat.lt_of_lt_of_le (h.dv k hk).2 c.size⟩, fun k hk => ⟨(h.dv3 k hk).1, Nat.lt_of_lt_of_le (h.dv3 k hk).2 c.size⟩, h.len, h.chg.fresh c (by simp; omega)⟩

theorem SitR.book (h : SitR W w b v b3 v3 b4 s s3 lv vs) {lv' l : Value} {xs : List Value} (t : BkStep w b4 lv (vs ++ [(l, xs)]) w' lv') (hx : xs.length ≤ 140737488355000) {w0 : World} (h0 : b < w0.heap.size ∧ b3 < w0.heap.size ∧ (∀ k, v.ownBlock = some k → k < w0.heap.size) ∧ (∀ k, v3.ownBlock = some k → k < w0.heap.size)) (hw : w0.heap.size ≤ w.heap.size) (hl : ∀ k, l.ownBlock = some k → w0.heap.size ≤ k) :
    SitR W w' b v b3 v3 b4 s s3 lv' (vs ++ [(l, xs)]) := by
  have d := h.dd
  have hm : ∀ k, Bk.not b4 lv vs k → k ∉ b4 :: lv.ownBlock.toList := fun k hk hm => by
    rcases List.mem_cons.1 hm with q | q
    · exact hk.1 q
    · exact hk.2.1 (by simpa using q)
  have last : ∀ (j : Nat) (v' : Value) (xs' : List Value), (vs ++ [(l, xs)])[j]? = some (v', xs') → vs[j]? = some (v', xs') ∨ (v' = l ∧ xs' = xs) := fun j v' xs' hj => by
    by_cases hjl : j < vs.length
    · rw [List.getElem?_append_left hjl] at hj; exact .inl hj
    · have hj2 : j < (vs ++ [(l, xs)]).length := (List.getElem?_eq_some_iff.1 hj).1
      obtain rfl : j = vs.length := by simp at hj2; omega
      rw [List.getElem?_append_right (Nat.le_refl _), Nat.sub_self] at hj
      have := Option.some.inj hj
      simp only [Prod.mk.injEq] at this
      exact .inr ⟨this.1.symm, this.2.symm⟩
  have hn : ∀ k, k < w0.heap.size → Bk.not b4 lv vs k → Bk.not b4 lv' (vs ++ [(l, xs)]) k := fun k hk hn => ⟨hn.1, fun hq => by
      rcases t.blk with q | ⟨k', q, hge⟩
      · rw [q] at hq; exact hn.2.1 hq
      · rw [q] at hq
        obtain rfl : k' = k := by simpa using hq
        omega, fun j v' xs' hj hb => by
      rcases last j v' xs' hj with q | ⟨rfl, _⟩
      · exact hn.2.2 j v' xs' q hb
      · have := hl k hb
        omega⟩
  refine ⟨h.rd.chg t.chg (hm _ h.n1) (fun k hk => hm _ (h.nv k hk)), h.rr.chg t.chg (hm _ h.n3) (fun k hk => hm _ (h.nv3 k hk)), t.bk, hn _ h0.1 h.n1, fun k hk => hn _ (h0.2.2.1 k hk) (h.nv k hk), hn _ h0.2.1 h.n3, fun k hk => hn _ (h0.2.2.2 k hk) (h.nv3 k hk), h.dd, fun k hk => ⟨(h.dv k hk).1, Nat.lt_of_lt_of_le (h.dv k hk).2 t.chg.size⟩, fun k hk => ⟨(h.dv3 k hk).1, Nat.lt_of_lt_of_le (h.dv3 k hk).2 t.chg.size⟩, fun j v' xs' hj => ?_, h.chg.fresh t.chg (fun k hk => .inr ?_)⟩
  · rcases last j v' xs' hj with q | ⟨_, rfl⟩
    · exact h.len j v' xs' q
    · exact hx
  · rcases List.mem_cons.1 hk with rfl | q
    · omega
    · have := (h.bk.own.lt k (by simpa using q)).1
      omega

end Go.Proofs.Ytbinoailpceonaa
