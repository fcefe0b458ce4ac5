/-
  One call of both rings, and what must come of it. By an AI agent.
-/
import Derived.Test.YtkkjhlihionlkaaRgStill
import Derived.Test.YtkkjhlihionlkaaRgBook
import Derived.Test.YtkkjhlihionlkaaRgSame
namespace Go.Proofs.Ytkkjhlihionlkaa
open Go.RowKit

theorem SpRow.unwide {w : World} {v : Value} {l : List (Nat × Nat)} (h : OwnW 2 w 0 61 v (slots l)) : SpRow w 0 v l := by
  have := h.2
  rw [slots_flat] at this
  unfold slots at this
  rw [List.length_map] at this
  exact this

/-- A list more, and the i-th, a ring of the document's, has turned. -/
theorem Side.rtookL {w0 w w' : World} {ts : List Thing} {P S t u S' t' u' : Nat} {v : Value} {l : List (Nat × Nat)} (h : Side w0 w ts) (i : Nat) (hi : ts[i]? = some (refT P S t u))
    (o : SpRow w' w.heap.size v l) (b : RefB w' P S' t' u') (c : Chg [P] w w') : Side w0 w' (spT v l :: ts.set i (refT P S' t' u')) := by
  have h1 := h.front i
  rw [front_some hi] at h1
  have hR : P < w.heap.size := (h.get i hi : RefB w P S t u).lt
  have h2 : Side w0 w' ([spT v l, refT P S' t' u'] ++ ts.eraseIdx i) := Side.swap (olds := [refT P S t u]) (bs := [spT v l, refT P S' t' u']) h1 c
    (fun k hk => .inl ⟨_, List.mem_singleton.2 rfl, hk⟩)
    (fun x hx => by
      rcases List.mem_cons.1 hx with rfl | hx
      · exact o.base
      · rw [List.mem_singleton.1 hx]; exact b)
    (fun x hx k hk => by
      rcases List.mem_cons.1 hx with rfl | hx
      · exact .inr (o.lt k (by simpa [spT] using hk)).1
      · rw [List.mem_singleton.1 hx] at hk
        exact .inl ⟨_, List.mem_singleton.2 rfl, hk⟩)
    (List.pairwise_cons.2 ⟨fun x hx k hk hm => by
      rw [List.mem_singleton.1 hx] at hm
      have h1 := (o.lt k (by simpa [spT] using hk)).1
      rw [List.mem_singleton.1 hm] at h1
      omega, List.pairwise_singleton _ _⟩)
  refine h2.perm ?_
  exact List.Perm.cons _ (set_perm ts i (refT P S' t' u') (List.getElem?_eq_some_iff.1 hi).1).symm

/-- A list of no spans. -/
theorem Side.noSpans {w0 w : World} {ts : List Thing} (h : Side w0 w ts) : Side w0 w (spT (.slice none 0 0) [] :: ts) :=
  h.add (Chg.refl _ _) (SpRow.nil _ _) (fun k hk => by simp [spT, Value.ownBlock] at hk)

theorem Side.boxed {w0 W : World} {ts : List Thing} (h : Side w0 W ts) (vs : List Value) (e : TypeId) : Side w0 (W.alloc (.cells vs.toArray e)) (blkT W.heap.size e vs :: ts) :=
  h.add ((Chg.refl _ _).alloc _) (Blk.made W vs e) (fun k hk => by rw [List.mem_singleton.1 hk]; exact Nat.le_refl _)

/-- What both say to Take, whatever is asked. -/
theorem takes_both {S t u : Nat} (h : Rg S t u) (x : Int) : ∃ (m : Nat) (er : Int), (0 ≤ er ∧ er ≤ 91) ∧ m ≤ S - u ∧
    (∀ R w, RingB w R S t u → Calls Try.prog 20 #[.pointer (some ⟨R, 0, none⟩), .int .i64 x] w fun e w' =>
      ∃ v, e = .returned (.tuple #[v, .int .u16 er]) ∧ Hid (SpRow w' w.heap.size v (spn S ((t + u) % S) m)) ∧ Hid (RingB w' R S t (u + m)) ∧ Hid (Chg [R] w w')) ∧
    (∀ P w, RefB w P S t u → Calls Try.prog 26 #[.pointer (some ⟨P, 0, none⟩), .int .i64 x] w fun e w' =>
      ∃ v, e = .returned (.tuple #[v, .int .i64 er]) ∧ Hid (RefB w' P S t (u + m)) ∧ Hid (SpRow w' w.heap.size v (spn S ((t + u) % S) m)) ∧ Hid (Chg [P] w w')) := by
  have nl : ∀ f, spn S f 0 = [] := fun f => by simp [spn, runs]
  by_cases h0 : x < 0
  · refine ⟨0, 1, by omega, by omega, fun R w hb => (take_neg R x h0 w).mono ?_, fun P w hb => (refTake_neg w x h0).mono ?_⟩
    · rintro e w' ⟨rfl, C⟩
      exact ⟨_, rfl, by rw [nl]; exact SpRow.nil _ _, hb.chg C.out (by simp), C.out.mono (by simp)⟩
    · rintro e w' ⟨rfl, C⟩
      exact ⟨_, rfl, hb.chg C.out (by simp), by rw [nl]; exact SpRow.nil _ _, C.out.mono (by simp)⟩
  · by_cases h1 : ((S - u : Nat) : Int) < x
    · refine ⟨0, 90, by omega, by omega, fun R w hb => (take_full h w hb x h1).mono ?_, fun P w hb => (refTake_full h w hb x h1).mono ?_⟩
      · rintro e w' ⟨rfl, C⟩
        exact ⟨_, rfl, by rw [nl]; exact SpRow.nil _ _, hb.chg C.out (by simp), C.out.mono (by simp)⟩
      · rintro e w' ⟨rfl, C⟩
        exact ⟨_, rfl, hb.chg C.out (by simp), by rw [nl]; exact SpRow.nil _ _, C.out.mono (by simp)⟩
    · obtain ⟨k, rfl⟩ : ∃ k : Nat, x = k := ⟨x.toNat, by omega⟩
      exact ⟨k, 0, by omega, by omega, fun R w hb => take_ok h w hb k (by omega), fun P w hb => refTake_ok h w hb k (by omega)⟩

/-- What both say to Give, whatever is asked. -/
theorem gives_both {S t u : Nat} (h : Rg S t u) (x : Int) : ∃ (m : Nat) (er : Int), (0 ≤ er ∧ er ≤ 91) ∧ m ≤ u ∧
    (∀ R w, RingB w R S t u → Calls Try.prog 21 #[.pointer (some ⟨R, 0, none⟩), .int .i64 x] w fun e w' =>
      ∃ v, e = .returned (.tuple #[v, .int .u16 er]) ∧ Hid (SpRow w' w.heap.size v (spn S t m)) ∧ Hid (RingB w' R S ((t + m) % S) (u - m)) ∧ Hid (Chg [R] w w')) ∧
    (∀ P w, RefB w P S t u → Calls Try.prog 27 #[.pointer (some ⟨P, 0, none⟩), .int .i64 x] w fun e w' =>
      ∃ v, e = .returned (.tuple #[v, .int .i64 er]) ∧ Hid (RefB w' P S ((t + m) % S) (u - m)) ∧ Hid (SpRow w' w.heap.size v (spn S t m)) ∧ Hid (Chg [P] w w')) := by
  have nl : ∀ f, spn S f 0 = [] := fun f => by simp [spn, runs]
  have ht : (t + 0) % S = t := Nat.mod_eq_of_lt h.tail
  by_cases h0 : x < 0
  · refine ⟨0, 1, by omega, by omega, fun R w hb => (give_neg R x h0 w).mono ?_, fun P w hb => (refGive_neg w x h0).mono ?_⟩
    · rintro e w' ⟨rfl, C⟩
      exact ⟨_, rfl, by rw [nl]; exact SpRow.nil _ _, by rw [ht]; exact hb.chg C.out (by simp), C.out.mono (by simp)⟩
    · rintro e w' ⟨rfl, C⟩
      exact ⟨_, rfl, by rw [ht]; exact hb.chg C.out (by simp), by rw [nl]; exact SpRow.nil _ _, C.out.mono (by simp)⟩
  · by_cases h1 : (u : Int) < x
    · refine ⟨0, 91, by omega, by omega, fun R w hb => (give_less w hb x h1).mono ?_, fun P w hb => (refGive_less h w hb x h1).mono ?_⟩
      · rintro e w' ⟨rfl, C⟩
        exact ⟨_, rfl, by rw [nl]; exact SpRow.nil _ _, by rw [ht]; exact hb.chg C.out (by simp), C.out.mono (by simp)⟩
      · rintro e w' ⟨rfl, C⟩
        exact ⟨_, rfl, by rw [ht]; exact hb.chg C.out (by simp), by rw [nl]; exact SpRow.nil _ _, C.out.mono (by simp)⟩
    · obtain ⟨k, rfl⟩ : ∃ k : Nat, x = k := ⟨x.toNat, by omega⟩
      exact ⟨k, 0, by omega, by omega, fun R w hb => give_ok h w hb k (by omega), fun P w hb => refGive_ok h w hb k (by omega)⟩

/-- What both say to At, whatever is asked. -/
theorem ats_both {S t u : Nat} (h : Rg S t u) (x : Int) : ∃ (z er : Int), (0 ≤ er ∧ er ≤ 91) ∧
    (∀ R w, RingB w R S t u → Calls Try.prog 24 #[.pointer (some ⟨R, 0, none⟩), .int .i64 x] w (Says w (.tuple #[.int .i64 z, .int .u16 er]))) ∧
    (∀ P w, RefB w P S t u → Calls Try.prog 29 #[.pointer (some ⟨P, 0, none⟩), .int .i64 x] w (Says w (.tuple #[.int .i64 z, .int .i64 er]))) := by
  by_cases h0 : x < 0 ∨ (S : Int) ≤ x
  · exact ⟨0, 3, by omega, fun R w hb => at_out h w hb x h0, fun P w hb => refAt_out h w hb x h0⟩
  · obtain ⟨k, rfl⟩ : ∃ k : Nat, x = k := ⟨x.toNat, by omega⟩
    exact ⟨_, 0, by omega, fun R w hb => at_in h w hb k (by omega), fun P w hb => refAt_in h w hb k (by omega)⟩

/-- What comes of a call: true, the lists are booked, both rings have turned alike. -/
def Did (w0 : World) (S t' u' R P b : Nat) (ts : List Thing) (vs : Wides) (e : Ending) (w' : World) : Prop :=
  e = .returned (.bool true) ∧ ∃ lv' vs', Hid (vs'.length ≤ vs.length + 1) ∧ Hid (∀ p ∈ vs', p ∈ vs ∨ p.2.length ≤ 2) ∧ Hid (Side w0 w' (spansT lv' vs' :: bkT b lv' :: ringT R S t' u' :: refT P S t' u' :: ts))

/-- The end of a call: the list is booked, and the two are the same. -/
theorem slots_len (l : List (Nat × Nat)) : (slots l).length = l.length := by simp [slots]

set_option maxHeartbeats 8000000 in
set_option maxRecDepth 100000 in
theorem does_any {S t u : Nat} (h : Rg S t u) (kd x : Int) : ∃ t' u', Rg S t' u' ∧ ∀ (w0 w : World) (ts : List Thing) (R P b : Nat) (lv : Value) (vs : Wides), Side w0 w (spansT lv vs :: bkT b lv :: ringT R S t u :: refT P S t u :: ts) → vs.length ≤ 1000000 →
    Calls Try.prog 11 #[.pointer (some ⟨R, 0, none⟩), .pointer (some ⟨P, 0, none⟩), .agg #[.int .i64 kd, .int .i64 x], .pointer (some ⟨b, 0, none⟩)] w (Did w0 S t' u' R P b ts vs) := by
  have SAME := Lib.hid same_spans
  by_cases k1 : kd = 1
  · subst k1
    obtain ⟨m, er, hq, hm, TK, RK⟩ := takes_both h x
    refine ⟨t, u + m, h.more hm, fun w0 w ts R P b lv vs H hl => ?_⟩
    have L := Lib.hid (spn_len S ((t + u) % S) m)
    generalize spn S ((t + u) % S) m = l at *
    replace H := Lib.hid H
    replace hl := Lib.hid hl
    have WE := (wrap_in (z := er) (by omega) (by omega))
    obtain ⟨we1, we2⟩ := WE
    clear hq hm
    have H1 := Lib.hid (H.out.boxed [.int .i64 1, .int .i64 x] 49)
    clear H
    go_enter Try.func11, Try.ntmps11
    go_wp2_with fail
    refine (TK _ _ (H1.out.get 3 rfl)).mono ?_
    rintro e w2 ⟨v, rfl, O, B, C⟩
    have H2 := Lib.hid (H1.out.took 3 rfl O.out B.out C.out)
    obtain ⟨vo, vc, rfl⟩ := O.out.slice
    clear H1 O B C TK
    have c1 := (H2.out.get 1 rfl : Blk _ _ _ _).cell (j := 1) rfl
    go_wp2_with fail
    refine (RK _ _ (H2.out.get 5 rfl)).mono ?_
    rintro e w3 ⟨v2, rfl, B, O, C⟩
    have H3 := Lib.hid (H2.out.rtookL 5 rfl O.out B.out C.out)
    obtain ⟨qo, qc, rfl⟩ := O.out.slice
    clear H2 O B C RK c1
    have H4 := Lib.hid (((H3.out.front 4).front 4).front 3)
    clear H3
    go_wp2_with fail
    refine (bookSpans_side H4.out hl.out).mono ?_
    rintro e w4 ⟨rfl, lv', H5⟩
    have ha : SpRow w4 0 (.slice vo l.length vc) l := SpRow.unwide ((H5.out.get 0 rfl : RackW _ _ _ _ _ _).row vs.length _ _ (by rw [List.getElem?_append_right (Nat.le_refl _), Nat.sub_self]; rfl))
    have hb : SpRow w4 0 (.slice qo l.length qc) l := H5.out.get 2 rfl
    have SM := Lib.hid (SAME.out _ _ l w4 ha hb (by have := L.out; omega))
    clear ha hb H4
    go_wp2_with (go_at_call 23; refine SM.out.mono ?_; rintro e w5 ⟨rfl, C⟩)
    go_ret
    refine ⟨rfl, lv', _, ?_, ?_, (((H5.out.quiet C.out).front 3).tail.front 2).tail⟩
    · show _ ≤ _
      rw [List.length_append]
      exact Nat.le_refl _
    · intro p hp
      rcases List.mem_append.1 hp with hp | hp
      · exact .inl hp
      · rw [List.mem_singleton.1 hp]
        exact .inr (by rw [slots_len]; exact L.out)
  by_cases k2 : kd = 2
  · subst k2
    obtain ⟨m, er, hq, hm, TK, RK⟩ := gives_both h x
    refine ⟨(t + m) % S, u - m, h.less, fun w0 w ts R P b lv vs H hl => ?_⟩
    have L := Lib.hid (spn_len S t m)
    generalize spn S t m = l at *
    replace H := Lib.hid H
    replace hl := Lib.hid hl
    have WE := (wrap_in (z := er) (by omega) (by omega))
    obtain ⟨we1, we2⟩ := WE
    clear hq hm
    have H1 := Lib.hid (H.out.boxed [.int .i64 2, .int .i64 x] 49)
    clear H
    go_enter Try.func11, Try.ntmps11
    go_wp2_with fail
    refine (TK _ _ (H1.out.get 3 rfl)).mono ?_
    rintro e w2 ⟨v, rfl, O, B, C⟩
    have H2 := Lib.hid (H1.out.took 3 rfl O.out B.out C.out)
    obtain ⟨vo, vc, rfl⟩ := O.out.slice
    clear H1 O B C TK
    have c1 := (H2.out.get 1 rfl : Blk _ _ _ _).cell (j := 1) rfl
    go_wp2_with fail
    refine (RK _ _ (H2.out.get 5 rfl)).mono ?_
    rintro e w3 ⟨v2, rfl, B, O, C⟩
    have H3 := Lib.hid (H2.out.rtookL 5 rfl O.out B.out C.out)
    obtain ⟨qo, qc, rfl⟩ := O.out.slice
    clear H2 O B C RK c1
    have H4 := Lib.hid (((H3.out.front 4).front 4).front 3)
    clear H3
    go_wp2_with fail
    refine (bookSpans_side H4.out hl.out).mono ?_
    rintro e w4 ⟨rfl, lv', H5⟩
    have ha : SpRow w4 0 (.slice vo l.length vc) l := SpRow.unwide ((H5.out.get 0 rfl : RackW _ _ _ _ _ _).row vs.length _ _ (by rw [List.getElem?_append_right (Nat.le_refl _), Nat.sub_self]; rfl))
    have hb : SpRow w4 0 (.slice qo l.length qc) l := H5.out.get 2 rfl
    have SM := Lib.hid (SAME.out _ _ l w4 ha hb (by have := L.out; omega))
    clear ha hb H4
    go_wp2_with (go_at_call 23; refine SM.out.mono ?_; rintro e w5 ⟨rfl, C⟩)
    go_ret
    refine ⟨rfl, lv', _, ?_, ?_, (((H5.out.quiet C.out).front 3).tail.front 2).tail⟩
    · show _ ≤ _
      rw [List.length_append]
      exact Nat.le_refl _
    · intro p hp
      rcases List.mem_append.1 hp with hp | hp
      · exact .inl hp
      · rw [List.mem_singleton.1 hp]
        exact .inr (by rw [slots_len]; exact L.out)
  by_cases k3 : kd = 3
  · subst k3
    have TK := fun R w (hb : RingB w R S t u) => live_any h w hb
    have RK := fun P w (hb : RefB w P S t u) => refLive_any h w hb
    refine ⟨t, u, h, fun w0 w ts R P b lv vs H hl => ?_⟩
    have L := Lib.hid (spn_len S t u)
    generalize spn S t u = l at *
    replace H := Lib.hid H
    replace hl := Lib.hid hl
    have H1 := Lib.hid (H.out.boxed [.int .i64 3, .int .i64 x] 49)
    clear H k1 k2
    go_enter Try.func11, Try.ntmps11
    go_wp2_with fail
    refine (TK _ _ (H1.out.get 3 rfl)).mono ?_
    rintro e w2 ⟨v, rfl, O, C⟩
    have H2 := Lib.hid (H1.out.spans O.out C.out)
    obtain ⟨vo, vc, rfl⟩ := O.out.slice
    clear H1 O C TK
    go_wp2_with fail
    refine (RK _ _ (H2.out.get 5 rfl)).mono ?_
    rintro e w3 ⟨v2, rfl, O, C⟩
    have H3 := Lib.hid (H2.out.spans O.out C.out)
    obtain ⟨qo, qc, rfl⟩ := O.out.slice
    clear H2 O C RK
    have H4 := Lib.hid (((H3.out.front 4).front 4).front 3)
    clear H3
    go_wp2_with fail
    refine (bookSpans_side H4.out hl.out).mono ?_
    rintro e w4 ⟨rfl, lv', H5⟩
    have ha : SpRow w4 0 (.slice vo l.length vc) l := SpRow.unwide ((H5.out.get 0 rfl : RackW _ _ _ _ _ _).row vs.length _ _ (by rw [List.getElem?_append_right (Nat.le_refl _), Nat.sub_self]; rfl))
    have hb : SpRow w4 0 (.slice qo l.length qc) l := H5.out.get 2 rfl
    have SM := Lib.hid (SAME.out _ _ l w4 ha hb (by have := L.out; omega))
    clear ha hb H4
    go_wp2_with (go_at_call 23; refine SM.out.mono ?_; rintro e w5 ⟨rfl, C⟩)
    go_ret
    refine ⟨rfl, lv', _, ?_, ?_, (((H5.out.quiet C.out).front 3).tail.front 2).tail⟩
    · show _ ≤ _
      rw [List.length_append]
      exact Nat.le_refl _
    · intro p hp
      rcases List.mem_append.1 hp with hp | hp
      · exact .inl hp
      · rw [List.mem_singleton.1 hp]
        exact .inr (by rw [slots_len]; exact L.out)
  by_cases k4 : kd = 4
  · subst k4
    obtain ⟨z, er, hq, TK, RK⟩ := ats_both h x
    refine ⟨t, u, h, fun w0 w ts R P b lv vs H hl => ?_⟩
    replace H := Lib.hid H
    have WE := (wrap_in (z := er) (by omega) (by omega))
    obtain ⟨we1, we2⟩ := WE
    clear hq k1 k2 k3
    have H1 := Lib.hid (H.out.boxed [.int .i64 4, .int .i64 x] 49)
    clear H
    go_enter Try.func11, Try.ntmps11
    go_wp2_with fail
    refine (TK _ _ (H1.out.get 3 rfl)).mono ?_
    rintro e w2 ⟨rfl, C⟩
    have H2 := Lib.hid (H1.out.quiet C.out)
    clear H1 C TK
    have c1 := (H2.out.get 0 rfl : Blk _ _ _ _).cell (j := 1) rfl
    go_wp2_with fail
    refine (RK _ _ (H2.out.get 4 rfl)).mono ?_
    rintro e w3 ⟨rfl, C⟩
    have H3 := Lib.hid (H2.out.quiet C.out)
    clear H2 C RK c1
    go_wp2_with fail
    go_ret
    exact ⟨rfl, lv, vs, Nat.le_succ _, fun p hp => .inl hp, H3.out.tail⟩
  have b1 : (kd == 1) = false := by simpa using k1
  have b2 : (kd == 2) = false := by simpa using k2
  have b3 : (kd == 3) = false := by simpa using k3
  have b4 : (kd == 4) = false := by simpa using k4
  refine ⟨t, u, h, fun w0 w ts R P b lv vs H hl => ?_⟩
  replace H := Lib.hid H
  replace hl := Lib.hid hl
  have H1 := Lib.hid (H.out.boxed [.int .i64 kd, .int .i64 x] 49)
  have H4 := Lib.hid (((H1.out.front 2).front 2).noSpans)
  clear H h k1 k2 k3 k4 H1
  go_enter Try.func11, Try.ntmps11
  go_wp2_with fail
  refine (bookSpans_side H4.out hl.out).mono ?_
  rintro e w4 ⟨rfl, lv', H5⟩
  have SM := Lib.hid (SAME.out _ _ [] w4 (SpRow.nil _ _) (SpRow.nil _ _) (by simp))
  clear H4
  go_wp2_with (go_at_call 23; refine SM.out.mono ?_; rintro e w5 ⟨rfl, C⟩)
  go_ret
  refine ⟨rfl, lv', _, ?_, ?_, ((H5.out.quiet C.out).front 2).tail⟩
  · show _ ≤ _
    rw [List.length_append]
    exact Nat.le_refl _
  · intro p hp
    rcases List.mem_append.1 hp with hp | hp
    · exact .inl hp
    · rw [List.mem_singleton.1 hp]
      exact .inr (Nat.zero_le _)

end Go.Proofs.Ytkkjhlihionlkaa
