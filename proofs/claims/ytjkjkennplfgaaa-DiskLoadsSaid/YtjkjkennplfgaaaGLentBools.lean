/-
  Bools that are lent: a copy with two marks behind. By an AI agent.
-/
import Derived.Test.YtjkjkennplfgaaaGSameMore
namespace Go.Proofs.Ytjkjkennplfgaaa
open Go.RowKit

theorem info_bool1 : (Try.prog.info? 4).map (fun i => (i.zero, i.size, i.bytes)) = some (some (.bool false), 1, 1) := by kernel_rfl

/-- What has been lent: in a block of its own. -/
def LentBools (w : World) (xs : List Bool) (e : Ending) (w' : World) : Prop :=
  ∃ g, e = .returned (.slice (some ⟨g, 0, none⟩) xs.length (xs.length + 2)) ∧ Hid (Blk w' g 4 ((xs ++ [true, false]).map Value.bool)) ∧ Hid (Chg [] w w') ∧ w.heap.size ≤ g

theorem Bools_one (xs : List Bool) : ∀ u ∈ xs.map Value.bool, u.oneCell' = true := by
  intro u hu
  obtain ⟨x, _, rfl⟩ := List.mem_map.1 hu
  rfl

theorem lentBools_cells {w w1 : World} {ad : Addr} {xs : List Bool} (hcell : ∀ j u, (xs.map Value.bool)[j]? = some u → w.cell? (ad.add j) = some u) (hlt : xs = [] ∨ ad.block < w.heap.size) (c : Chg [] w w1) :
    ∀ j u, (xs.map Value.bool)[j]? = some u → w1.cell? (ad.add j) = some u := by
  intro j u hj
  rcases hlt with rfl | h
  · simp at hj
  · rw [← hcell j u hj]
    exact c.cell (by rw [add_block]; exact h) (by simp)

set_option maxHeartbeats 1000000 in
set_option maxRecDepth 100000 in
theorem lentBools_some (ad : Addr) (c : Nat) (xs : List Bool) (w : World) (hcell : ∀ j u, (xs.map Value.bool)[j]? = some u → w.cell? (ad.add j) = some u) (hlt : xs = [] ∨ ad.block < w.heap.size) (hbig : xs.length ≤ 1000000000000) :
    Calls Try.prog 34 #[.slice (some ad) xs.length c] w (LentBools w xs) := by
  obtain ⟨i0, hi, hz0, hz1, hz2⟩ := info_parts info_bool1
  have QC : Hid (∀ w1, Chg [] w w1 → ∀ j u, (xs.map Value.bool)[j]? = some u → w1.cell? (ad.add j) = some u) := fun w1 h => lentBools_cells hcell hlt h
  have ON := Lib.hid (Bools_one xs)
  clear hcell hlt
  go_enter Try.func34, Try.ntmps34
  go_wp2_with (first
    | (at_make; refine wpList_make_own _ rfl _ _ 57 rfl w.heap.size 4 i0 (.bool false) 1 Try.underlying57 hi hz0 hz1 .i64 .i64 _ (xs.length + 2) rfl rfl (by omega) (by rw [hz2]; omega) (by unfold maxLen; omega) (Nat.le_refl _) ?_; intro w1 hown hgrow; have C1 : Hid (Chg [] w w1) := (Chg.refl _ w).grown hgrow (by intro k hk; cases hk); have O1 := Lib.hid hown; clear hown hgrow)
    | (at_builtin; (refine wpList_append_fits _ rfl _ _ 57 rfl w.heap.size 4 i0 1 Try.underlying57 hi hz1 _ _ _ _ rfl O1.out ad xs.length c (xs.map Value.bool) rfl (by simp) (QC.out w1 C1.out) ON.out (by omega) ?_); intro w2 hown hgrow; have C2 : Hid (Chg [] w w2) := C1.out.grown hgrow (by intro k hk; simp at hk; omega); simp only [Nat.zero_add, List.nil_append] at hown; have O2 := Lib.hid hown; clear hown hgrow O1)
    | (at_builtin; refine wpList_append_fits _ rfl _ _ 57 rfl w.heap.size 4 i0 1 Try.underlying57 hi hz1 _ _ _ _ rfl (O2.out.alloc _) ⟨w2.heap.size, 0, none⟩ 2 2 [.bool true, .bool false] rfl rfl (two_cells _ _ _ _) (Bools_one [true, false]) (by omega) ?_; intro w3 hown hgrow; have C3 : Hid (Chg [] w w3) := (C2.out.alloc _).grown hgrow (by intro k hk; simp at hk; omega); have O3 := Lib.hid hown; clear hown hgrow O2))
  go_ret
  exact ⟨w.heap.size, rfl, by have := (Blk.owned O3.out).1; rw [List.map_append]; exact this, C3, Nat.le_refl _⟩

set_option maxHeartbeats 1000000 in
set_option maxRecDepth 100000 in
theorem lentBools_none (c : Nat) (w : World) :
    Calls Try.prog 34 #[.slice none 0 c] w (LentBools w []) := by
  obtain ⟨i0, hi, hz0, hz1, hz2⟩ := info_parts info_bool1
  go_enter Try.func34, Try.ntmps34
  go_wp2_with (first
    | (at_make; refine wpList_make_own _ rfl _ _ 57 rfl w.heap.size 4 i0 (.bool false) 1 Try.underlying57 hi hz0 hz1 .i64 .i64 _ 2 rfl rfl (by omega) (by rw [hz2]; omega) (by unfold maxLen; omega) (Nat.le_refl _) ?_; intro w1 hown hgrow; have C1 : Hid (Chg [] w w1) := (Chg.refl _ w).grown hgrow (by intro k hk; cases hk); have O1 := Lib.hid hown; clear hown hgrow)
    | (at_builtin; refine wpList_append_nothing _ rfl _ _ 57 rfl w.heap.size 4 i0 1 Try.underlying57 hi _ _ _ rfl O1.out c rfl ?_; have O2 := Lib.hid O1.out; clear O1)
    | (at_builtin; refine wpList_append_fits _ rfl _ _ 57 rfl w.heap.size 4 i0 1 Try.underlying57 hi hz1 _ _ _ _ rfl (O2.out.alloc _) ⟨w1.heap.size, 0, none⟩ 2 2 [.bool true, .bool false] rfl rfl (two_cells _ _ _ _) (Bools_one [true, false]) (by omega) ?_; intro w3 hown hgrow; have C3 : Hid (Chg [] w w3) := (C1.out.alloc _).grown hgrow (by intro k hk; simp at hk; omega); have O3 := Lib.hid hown; clear hown hgrow O2))
  go_ret
  exact ⟨w.heap.size, rfl, by show Blk _ _ _ _; simpa using (Blk.owned O3.out).1, C3, Nat.le_refl _⟩

theorem lentBools_any (v : Value) (xs : List Bool) (w : World) (h : RdV w v (xs.map Value.bool)) (hbig : xs.length ≤ 1000000000000) :
    Calls Try.prog 34 #[v] w (LentBools w xs) := by
  rcases h with ⟨h0, ao, c, rfl⟩ | ⟨b, o, cp, rfl, hb, hc⟩
  · obtain rfl : xs = [] := by simpa using h0
    rcases ao with _ | a
    · exact lentBools_none c w
    · exact lentBools_some a c [] w (fun j u hj => by simp at hj) (.inl rfl) (by simp)
  · rw [List.length_map]
    refine lentBools_some ⟨b, o, none⟩ cp xs w (fun j u hj => ?_) (.inr hb) hbig
    rw [Addr.add_lit]
    exact hc j u hj

theorem lentBools_rd {w : World} {g : Nat} {xs : List Bool} (h : Blk w g 4 ((xs ++ [true, false]).map Value.bool)) : RdV w (.slice (some ⟨g, 0, none⟩) xs.length (xs.length + 2)) (xs.map Value.bool) := by
  refine .inr ⟨g, 0, xs.length + 2, by rw [List.length_map], h.lt, fun j u hj => ?_⟩
  rw [Nat.zero_add]
  refine h.cell ?_
  rw [List.map_append, List.getElem?_append_left (List.getElem?_eq_some_iff.1 hj).1]
  exact hj

set_option maxHeartbeats 1000000 in
set_option maxRecDepth 100000 in
theorem wholeBools_any (g : Nat) (v : Value) (xs : List Bool) (w : World) (hb : Blk w g 4 ((xs ++ [true, false]).map Value.bool)) (h : RdV w v (xs.map Value.bool)) (hbig : xs.length ≤ 1000000000000) :
    Calls Try.prog 36 #[.slice (some ⟨g, 0, none⟩) xs.length (xs.length + 2), v] w fun e w' => e = .returned (.bool true) ∧ ∃ q, w' = w.drewN q := by
  have c1 : w.cell? ⟨g, xs.length, none⟩ = some (.bool true) := hb.cell (by simp)
  have c2 : w.cell? ⟨g, xs.length + 1, none⟩ = some (.bool false) := hb.cell (by simp)
  obtain ⟨ao, c, rfl⟩ := h.slice
  rw [List.length_map] at h ⊢
  have SA := Lib.hid (lentBools_rd hb)
  have SB := Lib.hid h
  clear hb h
  have hn0 : (0 : Int) ≤ xs.length := Int.natCast_nonneg _
  go_enter Try.func36, Try.ntmps36
  go_wp2_with fail
  refine (same_bools _ _ _ _ SA.out SB.out (by omega)).mono ?_
  rintro e w' ⟨rfl, q, rfl⟩
  go_wp2_with fail
  go_ret
  exact ⟨rfl, _, rfl⟩

set_option maxHeartbeats 1000000 in
set_option maxRecDepth 100000 in
theorem spoilBools_any (g n : Nat) (vs : List Value) (w : World) (hb : Blk w g 4 vs) (hn : vs.length = n + 2) (hbig : n ≤ 1000000000000) :
    Calls Try.prog 37 #[.slice (some ⟨g, 0, none⟩) n (n + 2)] w fun e w' => e = .returned (.tuple #[]) ∧ Chg [g] w w' := by
  have HB := Lib.hid hb
  have HN := Lib.hid hn
  clear hb hn
  have hn0 : (0 : Int) ≤ n := Int.natCast_nonneg _
  go_enter Try.func37, Try.ntmps37
  go_wp2_with fail
  go_loopw [3] (fun i wr => ∃ k : Nat, k ≤ n + 2 ∧ i = .int .i64 k ∧ (∃ vs, Hid (vs.length = n + 2 ∧ Blk wr g 4 vs)) ∧ Hid (Chg [g] w wr)) (fun i _ => n + 2 - (intOf i).toNat)
  case atStart => exact ⟨0, Nat.zero_le _, rfl, ⟨_, HN.out, HB.out⟩, Chg.refl _ _⟩
  case round =>
    obtain ⟨k, hk, rfl, ⟨vs, hvs⟩, hc⟩ := hrel
    by_cases hlt : k < n + 2
    · have f1 := hvs.out.2.free k
      obtain ⟨u, hu⟩ : ∃ u, wr.cell? ⟨g, k, none⟩ = some u := ⟨_, hvs.out.2.cell (List.getElem?_eq_getElem (by rw [hvs.out.1]; exact hlt))⟩
      have hk0 : (0 : Int) ≤ k := Int.natCast_nonneg _
      have hk1 : (k : Int) < n + 2 := by omega
      go_wp2_with fail
      exact ⟨⟨k + 1, by omega, by go_num, ⟨_, by rw [List.length_set]; exact hvs.out.1, hvs.out.2.set k _⟩, hc.out.setCell (.inl (by simp)) _⟩, by simp [intOf]; omega⟩
    · obtain rfl : k = n + 2 := by omega
      go_wp2_with fail
      go_end0
      exact ⟨rfl, hc.out⟩

end Go.Proofs.Ytjkjkennplfgaaa
