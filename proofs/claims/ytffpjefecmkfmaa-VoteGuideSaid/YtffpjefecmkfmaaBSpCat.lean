/-
  Three lists of rows, put together. By an AI agent.
-/
import Derived.Test.YtffpjefecmkfmaaBSpNums
import Derived.Lib.AppendZeros
namespace Go.Proofs.Ytffpjefecmkfmaa
open Go.RowKit

theorem zero_cells_size (z : Array Value) (n : Nat) : (Builtin.zeroCells z n).size = n * z.size := by simp [Builtin.zeroCells]

set_option maxHeartbeats 1000000 in
set_option maxRecDepth 100000 in
theorem grow_any (n : Nat) (h0 : 0 < n) (hn : n ≤ 1000) (w : World) :
    Calls Try.prog 68 #[.slice none 0 0, .int .i64 n] w fun e w' => ∃ cp, e = .returned (.slice (some ⟨w.heap.size, 0, none⟩) 0 cp) ∧ Hid (w'.ownsRow w.heap.size 87 2 (.slice (some ⟨w.heap.size, 0, none⟩) 0 cp) 0 []) ∧ Hid (Chg [] w w') := by
  obtain ⟨i0, hi, hz0, hz1, hz2⟩ := info_parts info_field3
  have AR : Hid (∀ ty, (Builtin.append_ #[81, 3] ty #[.slice none 0 0, .int .i64 n]).run Try.prog w = .ok (.slice (some ⟨w.heap.size, 0, none⟩) n (grownCap w n 0 87)) (w.drew.alloc (.cells (Builtin.zeroCells (Value.agg #[.nilFunc, .nilFunc]).cells n ++ Builtin.zeroCells (Value.agg #[.nilFunc, .nilFunc]).cells (grownCap w n 0 87 - n)) 87))) := fun ty => Lib.run_append_nil_zeros w 81 3 ty 87 i0 (.agg #[.nilFunc, .nilFunc]) .i64 .i64 Try.underlying81 Try.underlying3 hi hz0 n h0 (by omega) (by omega) (by rw [hz2]; omega)
  have g1 := grownCap_ge w n 0 87
  have g2 := grownCap_le_maxLen w n 0 87 (by unfold maxLen; omega)
  generalize grownCap w n 0 87 = cp at *
  have OW : Hid ((w.drew.alloc (.cells (Builtin.zeroCells (Value.agg #[.nilFunc, .nilFunc]).cells n ++ Builtin.zeroCells (Value.agg #[.nilFunc, .nilFunc]).cells (cp - n)) 87)).ownsRow w.heap.size 87 2 (.slice (some ⟨w.heap.size, 0, none⟩) 0 cp) 0 []) := by
    refine ⟨rfl, .inr ⟨w.heap.size, cp, _, rfl, Nat.le_refl _, heap_alloc_new _ _, Nat.zero_le _, g2, ?_, by simp⟩⟩
    rw [Array.size_append, zero_cells_size, zero_cells_size]
    show n * 2 + (cp - n) * 2 = cp * 2
    omega
  have G1 := Lib.hid g1
  have H0 := Lib.hid h0
  have hn0 : (0 : Int) < n := by omega
  have CC : Hid (Chg [] w (w.drew.alloc (.cells (Builtin.zeroCells (Value.agg #[.nilFunc, .nilFunc]).cells n ++ Builtin.zeroCells (Value.agg #[.nilFunc, .nilFunc]).cells (cp - n)) 87))) := ((Chg.refl [] w).drewN 1).alloc _
  generalize w.drew.alloc (.cells (Builtin.zeroCells (Value.agg #[.nilFunc, .nilFunc]).cells n ++ Builtin.zeroCells (Value.agg #[.nilFunc, .nilFunc]).cells (cp - n)) 87) = w1 at *
  clear hz0 hz1 hz2 hi g2
  go_enter Try.func68, Try.ntmps68
  go_wp2_with (at_builtin; refine Lib.wpList_append_run _ rfl _ _ _ _ rfl _ _ rfl rfl _ _ (AR.out _) ?_)
  go_ret
  exact ⟨cp, rfl, OW, CC⟩

/-- A list of rows, read. -/
def CellsAt (w : World) (g : Nat) (xs : List Value) : Prop := ∀ j u, xs[j]? = some u → w.cell? ⟨g, j, none⟩ = some u

theorem CellsAt.chg {w w' : World} {g : Nat} {xs : List Value} {s : List Nat} (h : CellsAt w g xs) (c : Chg s w w') (hg : g < w.heap.size) (hs : g ∉ s) : CellsAt w' g xs := fun j u hj => (c.cell (p := ⟨g, j, none⟩) hg hs).trans (h j u hj)

theorem CellsAt.owned {w : World} {base : Nat} {e : TypeId} {size g n c m : Nat} {xs : List Value} (h : w.ownsRow base e size (.slice (some ⟨g, 0, none⟩) n c) m xs) : CellsAt w g xs := by
  obtain ⟨h1, h2⟩ := h
  rcases h2 with ⟨h2, _⟩ | ⟨g', cap, cur, h2, _, h3, h4, h5, h6, h7⟩
  · cases h2
  · obtain ⟨rfl, rfl, rfl⟩ : g = g' ∧ n = m ∧ c = cap := by simpa using h2
    intro j u hj
    have hb : Blk w g e cur.toList := by
      show _ = _
      rw [h3]
    refine hb.cell ?_
    have hl := (List.getElem?_eq_some_iff.1 hj).1
    rw [← h7] at hj hl
    rw [List.length_take] at hl
    rw [List.getElem?_take_of_lt (by omega)] at hj
    exact hj

theorem grown_new {w w1 w2 : World} {r : Option Nat} (h : Chg [] w w1) (hg : w1.grownBy w2 r) (hv : ∀ k, r = some k → w.heap.size ≤ k) : Chg [] w w2 := h.grown hg (fun k hk => .inr (hv k hk))

set_option maxHeartbeats 4000000 in
set_option maxRecDepth 100000 in
theorem concat_any (L g0 g1 g2 n0 n1 n2 p0 p1 p2 : Nat) (X0 X1 X2 : List Value) (w : World) (b0 : n0 ≤ 100 ∧ 0 < n0) (b1 : n1 ≤ 100) (b2 : n2 ≤ 100)
    (hL : CellsAt w L [.slice (some ⟨g0, 0, none⟩) n0 p0, .slice (some ⟨g1, 0, none⟩) n1 p1, .slice (some ⟨g2, 0, none⟩) n2 p2]) (h0 : CellsAt w g0 X0) (h1 : CellsAt w g1 X1) (h2 : CellsAt w g2 X2)
    (k0 : g0 < w.heap.size) (k1 : g1 < w.heap.size) (k2 : g2 < w.heap.size) (l0 : X0.length = n0 * 2) (l1 : X1.length = n1 * 2) (l2 : X2.length = n2 * 2) (o0 : ∀ u ∈ X0, u.oneCell' = true) (o1 : ∀ u ∈ X1, u.oneCell' = true) (o2 : ∀ u ∈ X2, u.oneCell' = true) :
    Calls Try.prog 50 #[.slice (some ⟨L, 0, none⟩) 3 3] w fun e w' => ∃ v, e = .returned v ∧ Hid (w'.ownsRow w.heap.size 87 2 v (n0 + n1 + n2) (X0 ++ X1 ++ X2)) ∧ Hid (Chg [] w w') := by
  obtain ⟨i0, hi, hz0, hz1, hz2⟩ := info_parts info_field3
  have c0 := hL 0 _ rfl
  have c1 := hL 1 _ rfl
  have c2 := hL 2 _ rfl
  have GR : Hid (Calls Try.prog 68 #[.slice none 0 0, .int .i64 ((n0 : Int) + n1 + n2)] w fun e w' => ∃ cp, e = .returned (.slice (some ⟨w.heap.size, 0, none⟩) 0 cp) ∧ Hid (w'.ownsRow w.heap.size 87 2 (.slice (some ⟨w.heap.size, 0, none⟩) 0 cp) 0 []) ∧ Hid (Chg [] w w')) := by
    have := grow_any (n0 + n1 + n2) (by omega) (by omega) w
    rw [Int.natCast_add, Int.natCast_add] at this
    exact this
  have kL : L < w.heap.size := World.block_lt_of_cell? w _ c0
  have S0 := Lib.hid (fun w' (c : Chg [] w w') j u (hj : X0[j]? = some u) => show w'.cell? ((⟨g0, 0, none⟩ : Addr).add j) = some u by rw [Addr.add_lit, Nat.zero_add]; exact h0.chg c k0 (by simp) j u hj)
  have S1 := Lib.hid (fun w' (c : Chg [] w w') j u (hj : X1[j]? = some u) => show w'.cell? ((⟨g1, 0, none⟩ : Addr).add j) = some u by rw [Addr.add_lit, Nat.zero_add]; exact h1.chg c k1 (by simp) j u hj)
  have S2 := Lib.hid (fun w' (c : Chg [] w w') j u (hj : X2[j]? = some u) => show w'.cell? ((⟨g2, 0, none⟩ : Addr).add j) = some u by rw [Addr.add_lit, Nat.zero_add]; exact h2.chg c k2 (by simp) j u hj)
  have HL : Hid (∀ w' (_ : Chg [] w w'), w'.cell? ⟨L, 0, none⟩ = some (.slice (some ⟨g0, 0, none⟩) n0 p0) ∧ w'.cell? ⟨L, 1, none⟩ = some (.slice (some ⟨g1, 0, none⟩) n1 p1) ∧ w'.cell? ⟨L, 2, none⟩ = some (.slice (some ⟨g2, 0, none⟩) n2 p2)) := fun w' c => ⟨hL.chg c kL (by simp) 0 _ rfl, hL.chg c kL (by simp) 1 _ rfl, hL.chg c kL (by simp) 2 _ rfl⟩
  replace l0 := Lib.hid l0
  replace l1 := Lib.hid l1
  replace l2 := Lib.hid l2
  clear hL h0 h1 h2
  obtain ⟨b0, b00⟩ := b0
  have m0 : (0 : Int) ≤ n0 := Int.natCast_nonneg _
  have m1 : (0 : Int) ≤ n1 := Int.natCast_nonneg _
  have m2 : (0 : Int) ≤ n2 := Int.natCast_nonneg _
  go_enter Try.func50, Try.ntmps50
  go_wp2_with fail
  refine wp_loop_rounds 4 ?_
  rw [rounds_succ]
  go_wp2_with fail
  rw [rounds_succ]
  go_wp2_with fail
  rw [rounds_succ]
  go_wp2_with fail
  rw [rounds_succ]
  go_wp2_with fail
  refine GR.out.mono ?_
  rintro e w1 ⟨cp, rfl, O1, C1⟩
  obtain ⟨d0, d1, d2⟩ := HL.out w1 C1.out
  clear GR c0 c1 c2
  go_wp2_with fail
  refine wp_loop_rounds 4 ?_
  rw [rounds_succ]
  go_wp2_with (at_builtin; refine wpList_append_own _ rfl _ _ 81 rfl w.heap.size 87 i0 (.agg #[.nilFunc, .nilFunc]) 2 16 Try.underlying81 hi hz0 hz1 hz2 rfl (by decide) _ 0 _ rfl O1.out ⟨g0, 0, none⟩ n0 p0 X0 rfl l0.out (S0.out _ C1.out) o0 (by unfold maxLen; omega) (by omega) C1.out.size ?_; intro v2 w2 hown hgrow _; have C2 : Hid (Chg [] w w2) := grown_new C1.out hgrow (fun k hk => (O1.out.lt k hk).1); have O2 := Lib.hid hown; clear hown hgrow O1)
  obtain ⟨e0, e1, e2⟩ := HL.out w2 C2.out
  obtain ⟨a2, q2, rfl⟩ := owns_slice O2.out
  clear d0 d1 d2 C1
  rw [rounds_succ]
  go_wp2_with (at_builtin; refine wpList_append_own _ rfl _ _ 81 rfl w.heap.size 87 i0 (.agg #[.nilFunc, .nilFunc]) 2 16 Try.underlying81 hi hz0 hz1 hz2 rfl (by decide) _ _ _ rfl O2.out ⟨g1, 0, none⟩ n1 p1 X1 rfl l1.out (S1.out _ C2.out) o1 (by unfold maxLen; omega) (by omega) C2.out.size ?_; intro v3 w3 hown hgrow _; have C3 : Hid (Chg [] w w3) := grown_new C2.out hgrow (fun k hk => (O2.out.lt k hk).1); have O3 := Lib.hid hown; clear hown hgrow O2)
  obtain ⟨d0, d1, d2⟩ := HL.out w3 C3.out
  obtain ⟨a3, q3, rfl⟩ := owns_slice O3.out
  clear e0 e1 e2 C2
  rw [rounds_succ]
  go_wp2_with (at_builtin; refine wpList_append_own _ rfl _ _ 81 rfl w.heap.size 87 i0 (.agg #[.nilFunc, .nilFunc]) 2 16 Try.underlying81 hi hz0 hz1 hz2 rfl (by decide) _ _ _ rfl O3.out ⟨g2, 0, none⟩ n2 p2 X2 rfl l2.out (S2.out _ C3.out) o2 (by unfold maxLen; omega) (by omega) C3.out.size ?_; intro v4 w4 hown hgrow _; have C4 : Hid (Chg [] w w4) := grown_new C3.out hgrow (fun k hk => (O3.out.lt k hk).1); have O4 := Lib.hid hown; clear hown hgrow O3)
  obtain ⟨a4, q4, rfl⟩ := owns_slice O4.out
  rw [rounds_succ]
  go_wp2_with fail
  go_ret
  refine ⟨.slice a4 (0 + n0 + n1 + n2) q4, rfl, ?_, C4⟩
  have := O4.out
  simp only [Nat.zero_add, List.nil_append] at this ⊢
  exact this

end Go.Proofs.Ytffpjefecmkfmaa
