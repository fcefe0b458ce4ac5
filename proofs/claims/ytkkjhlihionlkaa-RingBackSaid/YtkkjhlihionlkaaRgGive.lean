/-
  The program's ring: Give. By an AI agent.
-/
import Derived.Test.YtkkjhlihionlkaaRgTake
namespace Go.Proofs.Ytkkjhlihionlkaa
open Go.RowKit Go.Shelf

attribute [local go_sem] Oper.semAt_some

set_option maxRecDepth 100000 in
set_option maxHeartbeats 1000000 in
theorem give_neg (R : Nat) (n : Int) (hn : n < 0) (w : World) : Calls Try.prog 21 #[.pointer (some ⟨R, 0, none⟩), .int .i64 n] w (Refused w 1) := by
  go_enter Try.func21, Try.ntmps21
  go_wp2_with fail
  go_ret2
  exact ⟨rfl, Chg.refl _ _⟩

set_option maxRecDepth 100000 in
set_option maxHeartbeats 1000000 in
theorem give_less {S t u R : Nat} (w : World) (hb : RingB w R S t u) (n : Int) (hn : (u : Int) < n) : Calls Try.prog 21 #[.pointer (some ⟨R, 0, none⟩), .int .i64 n] w (Refused w 91) := by
  have c2 := hb.cell (j := 2) rfl
  have h0 : ¬ n < 0 := by omega
  clear hb
  go_enter Try.func21, Try.ntmps21
  go_wp2_with fail
  go_ret2
  exact ⟨rfl, Chg.refl _ _⟩

theorem Rg.less {S t u n : Nat} (h : Rg S t u) : Rg S ((t + n) % S) (u - n) := ⟨h.lo, h.hi, h.head_lt n, by have := h.used; omega⟩

set_option maxRecDepth 100000 in
set_option maxHeartbeats 4000000 in
theorem give_ok {S t u R : Nat} (h : Rg S t u) (w : World) (hb : RingB w R S t u) (n : Nat) (hn : n ≤ u) : Calls Try.prog 21 #[.pointer (some ⟨R, 0, none⟩), .int .i64 (n : Int)] w fun e w' =>
    ∃ v, e = .returned (.tuple #[v, .int .u16 0]) ∧ Hid (SpRow w' w.heap.size v (spn S t n)) ∧ Hid (RingB w' R S ((t + n) % S) (u - n)) ∧ Hid (Chg [R] w w') := by
  obtain ⟨i0, hi, hz0, hz1, hz2⟩ := info_parts info_span
  have hmx : Try.prog.follows .mixedOrders = true := by kernel_rfl
  have HR := Lib.hid h
  have RB : Hid (∀ w', Chg [] w w' → RingB w' R S t u) := fun w' c => hb.chg c (by simp)
  have hRl := hb.lt
  have hul := h.used
  have hSl := h.hi
  have ht := h.tail
  have PL : Hid (∀ w', Chg [] w w' → Calls Try.prog 44 #[.pointer (some ⟨R, 0, none⟩), .int .i64 (n : Int)] w' (Says w' (.int .i64 (((t + n) % S : Nat) : Int)))) := fun w' c => place_any HR.out w' (RB.out w' c) n (by omega)
  have c1 := hb.cell (j := 1) rfl
  have c2 := hb.cell (j := 2) rfl
  have CA : Hid (∀ o, (w.alloc o).cell? ⟨R, 1, none⟩ = some (.int .i64 (t : Int))) := fun o => (hb.alloc o).cell (j := 1) rfl
  have cb := CA.out (.cells #[.slice none 0 0] 56)
  obtain ⟨T, hT⟩ : ∃ T, T = (t + n) % S := ⟨_, rfl⟩
  rw [← hT] at PL ⊢
  have h0 : ¬ (n : Int) < 0 := by omega
  have h00 : ¬ u < n := by omega
  have e1 : (u : Int) - (n : Int) = ((u - n : Nat) : Int) := by omega
  obtain ⟨m, hm⟩ : ∃ m, m = u - n := ⟨_, rfl⟩
  rw [← hm] at e1 ⊢
  have WR := Lib.hid (wrap_in (z := (m : Int)) (by omega) (by omega))
  have HN : Hid (n ≤ S) := by show n ≤ S; omega
  have HM := Lib.hid e1
  clear h hb hm hn hSl hul hT ht CA e1
  refine (callsIn_wide (n := 9)).1 ?_
  refine callsIn_of_wp_marks Try.func21 rfl trivial ?_ rfl
  simp only [Try.ntmps21, List.size_toArray, List.length_cons, List.length_nil, Nat.reduceAdd, Nat.reduceSub, Array.replicate_succ, Array.replicate_zero, List.push_toArray, List.append_toArray, List.nil_append, List.cons_append]
  gi_wp2_with (first
    | (refine ⟨trivial, ?_⟩; gi_at_call 45; refine (callsIn_wide.2 (spans_any R _ _ _)).mono ?_; rintro e w' ⟨rfl, rfl⟩))
  clear h0 h00 c1 c2 cb
  have bO : Boxed (w.alloc (.cells #[.slice none 0 0] 56)) w.heap.size 56 (.slice none 0 0) := Boxed.new _ _ _
  obtain ⟨w2, hw2⟩ : ∃ w2, w2 = w.alloc (.cells #[.slice none 0 0] 56) := ⟨_, rfl⟩
  have hs2 : w2.heap.size = w.heap.size + 1 := by rw [hw2]; simp
  have hc2 : Chg [] w w2 := by rw [hw2]; exact (Chg.refl _ _).alloc _
  rw [← hw2] at bO ⊢
  have hbx : Boxed (boxes3 w2 R (t : Int) (n : Int)) w.heap.size 56 (.slice none 0 0) := ((bO.alloc (.cells #[.pointer (some ⟨R, 0, none⟩)] 23)).alloc (.cells #[.int .i64 (t : Int)] 3)).alloc (.cells #[.int .i64 (n : Int)] 3)
  have C0 : Chg [] w (boxes3 w2 R (t : Int) (n : Int)) := ((hc2.alloc _).alloc _).alloc _
  have b3 := boxes3_cells w2 R (t : Int) (n : Int)
  have hsz : (boxes3 w2 R (t : Int) (n : Int)).heap.size = w2.heap.size + 3 := by simp [boxes3]
  rw [hs2] at b3 hsz
  clear bO hw2 hc2
  obtain ⟨W0, hW0⟩ : ∃ W0, boxes3 w2 R (t : Int) (n : Int) = W0 := ⟨_, rfl⟩
  rw [hW0] at C0 b3 hsz hbx ⊢
  clear hW0 hs2 w2
  obtain ⟨q1, q2, q3⟩ := b3
  refine wpIn_rangeFunc_ownH rfl (by decide) (gf := 49) (lb := #[.pointer (some ⟨w.heap.size + 1 + 2, 0, none⟩), .pointer (some ⟨w.heap.size + 1, 0, none⟩), .pointer (some ⟨w.heap.size + 1 + 1, 0, none⟩)]) rfl trivial (enters_of Try.func49 (by kernel_rfl) rfl)
    (iter_stops S t n _ _ _ R HR.out.tail HN.out HR.out.hi 8 W0 q3 q1 ((RB.out _ C0).cell (j := 0) rfl) q2 (by omega) (by omega) (RB.out _ C0).lt (by omega)) (fun _ _ => trivial) (fun _ _ _ _ _ _ _ _ => trivial) (Below.refl _ _) (fun _ => rfl)
    (Heap2 w w.heap.size w.heap.size 56 61)
    (fun _ _ _ => False)
    (heap2_own _ _ _ _ _ _ (by omega))
    (fun _ _ _ _ _ hs _ _ => hs)
    ⟨⟨_, hbx, World.ownsRow_nil _ _ _ _⟩, C0⟩
    (fun x a' W => ∃ Bx, w.heap.size < Bx ∧ Blk W Bx 61 [.int .i64 (x.1 : Int), .int .i64 (x.2 : Int)] ∧ a' = { tmps := #[.pointer (some ⟨R, 0, none⟩), .int .i64 (n : Int), undef, undef, .slice none 0 0, .int .u16 0, .pointer (some ⟨w.heap.size, 0, none⟩), .pointer (some ⟨Bx, 0, none⟩), .int .i64 (n : Int), .bool false, .int .i64 (n : Int), .pointer (some ⟨R, 0, none⟩), .pointer (some ⟨R, 0, none⟩), .pointer (some ⟨R, 2, none⟩), .int .i64 (u : Int), .bool false, .pointer (some ⟨R, 0, none⟩), .pointer (some ⟨R, 0, none⟩), .pointer (some ⟨R, 0, none⟩), .pointer (some ⟨R, 1, none⟩), .int .i64 (t : Int), .int .i64 (n : Int), .func (.func 49) #[] #[.pointer (some ⟨w.heap.size + 1 + 2, 0, none⟩), .pointer (some ⟨w.heap.size + 1, 0, none⟩), .pointer (some ⟨w.heap.size + 1 + 1, 0, none⟩)], .agg #[.int .i64 (x.1 : Int), .int .i64 (x.2 : Int)], undef, undef, undef, undef, undef, undef, undef, undef, undef, undef, undef, undef, undef, undef, undef, undef, undef, undef, undef], defers := [] })
    (fun x a' _ X Y row hs hg hr => by obtain ⟨Bx, p1, p2, p3⟩ := hs; exact ⟨Bx, p1, blk_kept p2 hg (fun r q => (hr r q).2), p3⟩)
    ?assign ?body ?done ?stop
  case assign =>
    rintro l pre x W K hI hK
    have hI' := Lib.hid hI
    obtain ⟨⟨v, hv, hr⟩, hc⟩ := hI
    gi_wp2
    exact hK _ _ ((KeepsOthers.alloc _ _).from _) trivial (heap2_alloc hI'.out _) ⟨W.heap.size, hv.lt, Blk.made W [.int .i64 (x.1 : Int), .int .i64 (x.2 : Int)] _, rfl⟩
  case body =>
    rintro l pre x a' W hl _ ⟨⟨v, hv, hr⟩, hc⟩ ⟨Bx, hBx, bX, rfl⟩ hlen
    have k0 := bX.cell (j := 0) rfl
    have k1 := bX.cell (j := 1) rfl
    have kv := hv.cell
    have hsW := hc.size
    gi_wp2_with (gi_at_builtin; refine wpListIn_append_own _ rfl _ _ 56 rfl w.heap.size 61 i0 (.agg #[.int .i64 0, .int .i64 0]) 2 16 Try.underlying56 hi hz0 hz1 hz2 rfl (by decide) _ _ _ rfl (hr.alloc _) ⟨W.heap.size, 0, none⟩ 1 1 [.int .i64 (x.1 : Int), .int .i64 (x.2 : Int)] rfl rfl (pair_new _ _ _ _) (by simp [Value.oneCell']) (by unfold maxLen; omega) (by omega) (by simp; omega) ?_; intro v' w1 hown' hgrow _; obtain ⟨g', cap', rfl⟩ := ownsRow_succ hown'; obtain ⟨hv1, hv2, hr2, hk2, hb2⟩ := hv.appended (by decide) hr hsW (Nat.le_refl _) hown' hgrow; have hc1 := hv1.cell; have hf1 := hv1.frozen)
    exact ⟨hk2.from _, trivial, ⟨_, hv2, by rw [scells_snoc]; simpa using hr2⟩, chg_lift hc hb2⟩
  case done =>
    rintro D ys W hD rfl ⟨⟨v, hv, hr⟩, hc⟩ hK
    have FX : Hid (∀ w3, Chg [] W w3 → w3.frozen? ⟨R, 1, none⟩ = false ∧ w3.cell? ⟨R, 1, none⟩ = some (.int .i64 (t : Int)) ∧ (w3.setCell ⟨R, 1, none⟩ (.int .i64 (T : Int))).frozen? ⟨R, 2, none⟩ = false ∧ (w3.setCell ⟨R, 1, none⟩ (.int .i64 (T : Int))).cell? ⟨R, 2, none⟩ = some (.int .i64 (u : Int)) ∧ ((w3.setCell ⟨R, 1, none⟩ (.int .i64 (T : Int))).setCell ⟨R, 2, none⟩ (.int .i64 (m : Int))).cell? ⟨w.heap.size, 0, none⟩ = some v ∧
        Hid (RingB ((w3.setCell ⟨R, 1, none⟩ (.int .i64 (T : Int))).setCell ⟨R, 2, none⟩ (.int .i64 (m : Int))) R S T m ∧ ((w3.setCell ⟨R, 1, none⟩ (.int .i64 (T : Int))).setCell ⟨R, 2, none⟩ (.int .i64 (m : Int))).ownsRow w.heap.size 61 2 v (spn S t n).length (scells (spn S t n)) ∧ Chg [R] w ((w3.setCell ⟨R, 1, none⟩ (.int .i64 (T : Int))).setCell ⟨R, 2, none⟩ (.int .i64 (m : Int))) ∧ ((w3.setCell ⟨R, 1, none⟩ (.int .i64 (T : Int))).setCell ⟨R, 2, none⟩ (.int .i64 (m : Int))).heap[D]? = some (.deferred (some [])))) := by
      intro w3 c3
      have rb := RB.out _ (hc.trans c3)
      have hb3 : Boxed w3 w.heap.size 56 v := (c3.block _ hv.lt (by simp)).trans hv
      have rb1 := rb.set 1 (.int .i64 (T : Int))
      have rb2 := rb1.set 2 (.int .i64 (m : Int))
      have hne : R ≠ w.heap.size := by omega
      refine ⟨rb.free 1, rb.cell (j := 1) rfl, rb1.free 2, rb1.cell (j := 2) rfl, (boxed_set (boxed_set hb3 hne 1 _) hne 2 _).cell, rb2, ?_, ?_, ?_⟩
      · exact owns_chg (owns_chg hr c3 (by simp)) ((chg_one w3 R 1 _).setCell (.inl (by simp)) _) (fun k hk hm => by have := (hr.lt k hk).1; simp at hm; omega)
      · exact (((hc.trans c3).mono (by simp)).setCell (.inl (by simp)) _).setCell (.inl (by simp)) _
      · exact heap_setCell_of (heap_setCell_of ((c3.block _ (Array.getElem?_eq_some_iff.1 hK).1 (by simp)).trans hK) rfl _ _) rfl _ _
    have PW := Lib.hid (PL.out _ hc)
    have hDw : Hid (w.heap.size ≤ D) := by show w.heap.size ≤ D; omega
    clear hv hr hc hK RB PL hD
    gi_wp2_with (first
      | (refine ⟨trivial, ?_⟩; gi_at_call 44; refine (callsIn_wide.2 PW.out).mono ?_; rintro e w3 ⟨rfl, C3⟩; obtain ⟨x1, x2, x3, x4, x5, x6⟩ := FX.out _ C3.out; have e1 := HM.out; have wr1 := WR.out.1; have wr2 := WR.out.2))
    obtain ⟨x6, x7, x8, x9⟩ := x6.out
    refine ⟨by simp, .inl ⟨_, _, rfl, run_takeDeferred x9, ?_⟩⟩
    exact ⟨_, results_tmp2 rfl _ _ _, v, rfl, ownsRow_putObj x7 _ x9 rfl, blk_kept x6 (grownBy_putObj' _ D _) (fun r q => by cases q; exact ⟨_, x9, rfl⟩), x8.grown (grownBy_putObj' _ D _) (fun k q => by cases q; exact .inr hDw.out)⟩
  case stop =>
    rintro D c pre W _ _ q _
    exact q.elim

end Go.Proofs.Ytkkjhlihionlkaa
