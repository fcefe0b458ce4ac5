/-
  What lists that are lent need in common. No function of the program is named here. By an AI agent.
-/
import Derived.Test.YtnkdgmnmmmjgjaaGreatG
import Derived.Test.YtnkdgmnmmmjgjaaGreatGSame
namespace Go.Proofs.YtnkdgmnmmmjgjaaGreat
open Go.RowKit

theorem u8s_one (xs : List Int) : ∀ u ∈ xs.map (Value.int .u8), u.oneCell' = true := by
  intro u hu
  obtain ⟨x, _, rfl⟩ := List.mem_map.1 hu
  rfl

theorem add_block (a : Addr) (j : Nat) : (a.add j).block = a.block := by unfold Addr.add; split <;> rfl

theorem lent_cells {w w1 : World} {ad : Addr} {xs : List Int} (hcell : ∀ j u, (xs.map (Value.int .u8))[j]? = some u → w.cell? (ad.add j) = some u) (hlt : xs = [] ∨ ad.block < w.heap.size) (c : Chg [] w w1) :
    ∀ j u, (xs.map (Value.int .u8))[j]? = some u → w1.cell? (ad.add j) = some u := by
  intro j u hj
  rcases hlt with rfl | h
  · simp at hj
  · rw [← hcell j u hj]
    exact c.cell (by rw [add_block]; exact h) (by simp)

theorem two_cells (w : World) (x y : Value) (e : TypeId) : ∀ j u, [x, y][j]? = some u → (w.alloc (.cells #[x, y] e)).cell? ((⟨w.heap.size, 0, none⟩ : Addr).add j) = some u := by
  intro j u hj
  have := (Blk.made w [x, y] e).cell hj
  rw [Addr.add_lit, Nat.zero_add]
  exact this

end Go.Proofs.YtnkdgmnmmmjgjaaGreat
namespace Go.Proofs.YtnkdgmnmmmjgjaaGreat
open Go.RowKit

/-- What has been lent: in a block of its own. -/
def LentBy (w : World) (xs : List Int) (e : Ending) (w' : World) : Prop :=
  ∃ g, e = .returned (.slice (some ⟨g, 0, none⟩) xs.length (xs.length + 2)) ∧ Blk w' g 5 ((xs ++ [91, 92]).map (Value.int .u8)) ∧ Chg [] w w' ∧ w.heap.size ≤ g

set_option maxHeartbeats 1000000 in
set_option maxRecDepth 100000 in
theorem lent_some (ad : Addr) (c : Nat) (xs : List Int) (w : World) (hcell : ∀ j u, (xs.map (Value.int .u8))[j]? = some u → w.cell? (ad.add j) = some u) (hlt : xs = [] ∨ ad.block < w.heap.size) (hbig : xs.length ≤ 140737488355328) :
    Calls Tryz.prog 15 #[.slice (some ad) xs.length c] w (LentBy w xs) := by
  obtain ⟨i0, hi, hz0, hz1, hz2⟩ := info_parts info_u8
  have QC : Hid (∀ w1, Chg [] w w1 → ∀ j u, (xs.map (Value.int .u8))[j]? = some u → w1.cell? (ad.add j) = some u) := fun w1 h => lent_cells hcell hlt h
  have ON := Lib.hid (u8s_one xs)
  clear hcell hlt
  go_enter Tryz.func15, Tryz.ntmps15
  go_wp2_with (first
    | (at_make; refine wpList_make_own _ rfl _ _ 55 rfl w.heap.size 5 i0 (.int .u8 0) 1 Tryz.underlying55 hi hz0 hz1 .i64 .i64 _ (xs.length + 2) rfl rfl (by omega) (by rw [hz2]; omega) (by unfold maxLen; omega) (Nat.le_refl _) ?_; intro w1 hown hgrow; have C1 : Hid (Chg [] w w1) := (Chg.refl _ w).grown hgrow (by intro k hk; cases hk); have O1 := Lib.hid hown; clear hown hgrow)
    | (at_builtin; (refine wpList_append_fits _ rfl _ _ 55 rfl w.heap.size 5 i0 1 Tryz.underlying55 hi hz1 _ _ _ _ rfl O1.out ad xs.length c (xs.map (Value.int .u8)) rfl (by simp) (QC.out w1 C1.out) ON.out (by omega) ?_); intro w2 hown hgrow; have C2 : Hid (Chg [] w w2) := C1.out.grown hgrow (by intro k hk; simp at hk; omega); simp only [Nat.zero_add, List.nil_append] at hown; have O2 := Lib.hid hown; clear hown hgrow O1)
    | (at_builtin; refine wpList_append_fits _ rfl _ _ 55 rfl w.heap.size 5 i0 1 Tryz.underlying55 hi hz1 _ _ _ _ rfl (O2.out.alloc _) ⟨w2.heap.size, 0, none⟩ 2 2 [.int .u8 91, .int .u8 92] rfl rfl (two_cells _ _ _ _) (u8s_one [91, 92]) (by omega) ?_; intro w3 hown hgrow; have C3 : Hid (Chg [] w w3) := (C2.out.alloc _).grown hgrow (by intro k hk; simp at hk; omega); have O3 := Lib.hid hown; clear hown hgrow O2))
  go_ret
  exact ⟨w.heap.size, rfl, by simpa using (Blk.owned O3.out).1, C3.out, Nat.le_refl _⟩

set_option maxHeartbeats 1000000 in
set_option maxRecDepth 100000 in
theorem lent_none (c : Nat) (w : World) :
    Calls Tryz.prog 15 #[.slice none 0 c] w (LentBy w []) := by
  obtain ⟨i0, hi, hz0, hz1, hz2⟩ := info_parts info_u8
  go_enter Tryz.func15, Tryz.ntmps15
  go_wp2_with (first
    | (at_make; refine wpList_make_own _ rfl _ _ 55 rfl w.heap.size 5 i0 (.int .u8 0) 1 Tryz.underlying55 hi hz0 hz1 .i64 .i64 _ 2 rfl rfl (by omega) (by rw [hz2]; omega) (by unfold maxLen; omega) (Nat.le_refl _) ?_; intro w1 hown hgrow; have C1 : Hid (Chg [] w w1) := (Chg.refl _ w).grown hgrow (by intro k hk; cases hk); have O1 := Lib.hid hown; clear hown hgrow)
    | (at_builtin; refine wpList_append_nothing _ rfl _ _ 55 rfl w.heap.size 5 i0 1 Tryz.underlying55 hi _ _ _ rfl O1.out c rfl ?_; have O2 := Lib.hid O1.out; clear O1)
    | (at_builtin; refine wpList_append_fits _ rfl _ _ 55 rfl w.heap.size 5 i0 1 Tryz.underlying55 hi hz1 _ _ _ _ rfl (O2.out.alloc _) ⟨w1.heap.size, 0, none⟩ 2 2 [.int .u8 91, .int .u8 92] rfl rfl (two_cells _ _ _ _) (u8s_one [91, 92]) (by omega) ?_; intro w3 hown hgrow; have C3 : Hid (Chg [] w w3) := (C1.out.alloc _).grown hgrow (by intro k hk; simp at hk; omega); have O3 := Lib.hid hown; clear hown hgrow O2))
  go_ret
  exact ⟨w.heap.size, rfl, by simpa using (Blk.owned O3.out).1, C3.out, Nat.le_refl _⟩

theorem lent_any (v : Value) (xs : List Int) (w : World) (h : Sl w v xs) (hbig : xs.length ≤ 140737488355328) :
    Calls Tryz.prog 15 #[v] w (LentBy w xs) := by
  rcases h with ⟨rfl, ao, c, rfl⟩ | ⟨b, o, cp, rfl, hb, hc⟩
  · rcases ao with _ | a
    · exact lent_none c w
    · exact lent_some a c [] w (fun j u hj => by simp at hj) (.inl rfl) (by simp)
  · refine lent_some ⟨b, o, none⟩ cp xs w (fun j u hj => ?_) (.inr hb) hbig
    have hjn : j < xs.length := by
      have := (List.getElem?_eq_some_iff.1 hj).1
      simpa using this
    rw [Addr.add_lit, hc j hjn]
    rw [← hj]
    simp [List.getD, List.getElem?_eq_getElem hjn]

theorem Blk.sl {w : World} {g n : Nat} {xs ys : List Int} (h : Blk w g 5 ((xs ++ ys).map (Value.int .u8))) : Sl w (.slice (some ⟨g, 0, none⟩) xs.length n) xs :=
  .inr ⟨g, 0, n, rfl, h.lt, fun j hj => by rw [Nat.zero_add]; exact h.cell (by simp [List.getD, List.getElem?_append_left, hj])⟩

set_option maxHeartbeats 1000000 in
set_option maxRecDepth 100000 in
theorem whole_any (g : Nat) (v : Value) (xs : List Int) (w : World) (hb : Blk w g 5 ((xs ++ [91, 92]).map (Value.int .u8))) (h : Sl w v xs) (hbig : xs.length ≤ 140737488355328) :
    Calls Tryz.prog 17 #[.slice (some ⟨g, 0, none⟩) xs.length (xs.length + 2), v] w fun e w' => e = .returned (.bool true) ∧ ∃ q, w' = w.drewN q := by
  have c1 : w.cell? ⟨g, xs.length, none⟩ = some (.int .u8 91) := hb.cell (by simp)
  have c2 : w.cell? ⟨g, xs.length + 1, none⟩ = some (.int .u8 92) := hb.cell (by simp)
  obtain ⟨ao, c, rfl⟩ := h.slice
  have SA := Lib.hid (Blk.sl (n := xs.length + 2) hb)
  have SB := Lib.hid h
  clear hb h
  have hn0 : (0 : Int) ≤ xs.length := Int.natCast_nonneg _
  go_enter Tryz.func17, Tryz.ntmps17
  go_wp2_with fail
  refine (same_true _ _ _ _ SA.out SB.out hbig).mono ?_
  rintro e w' ⟨rfl, q, rfl⟩
  go_wp2_with fail
  go_ret
  exact ⟨rfl, _, rfl⟩

set_option maxHeartbeats 1000000 in
set_option maxRecDepth 100000 in
theorem spoil_any (g n : Nat) (xs : List Int) (w : World) (hb : Blk w g 5 (xs.map (Value.int .u8))) (hn : xs.length = n + 2) (hbig : n ≤ 140737488355328) :
    Calls Tryz.prog 18 #[.slice (some ⟨g, 0, none⟩) n (n + 2)] w fun e w' => e = .returned (.tuple #[]) ∧ Chg [g] w w' := by
  have HB := Lib.hid hb
  have HN := Lib.hid hn
  clear hb hn
  have hn0 : (0 : Int) ≤ n := Int.natCast_nonneg _
  go_enter Tryz.func18, Tryz.ntmps18
  go_wp2_with fail
  go_loopw [3] (fun i wr => ∃ k : Nat, k ≤ n + 2 ∧ i = .int .i64 k ∧ (∃ vs, Hid (vs.length = n + 2 ∧ Blk wr g 5 vs)) ∧ Hid (Chg [g] w wr)) (fun i _ => n + 2 - (intOf i).toNat)
  case atStart => exact ⟨0, Nat.zero_le _, rfl, ⟨_, by rw [List.length_map]; exact HN, HB.out⟩, Chg.refl _ _⟩
  case round =>
    obtain ⟨k, hk, rfl, ⟨vs, hvs⟩, hc⟩ := hrel
    by_cases hlt : k < n + 2
    · have f1 := hvs.out.2.free k
      obtain ⟨u, hu⟩ : ∃ u, wr.cell? ⟨g, k, none⟩ = some u := ⟨_, hvs.out.2.cell (List.getElem?_eq_getElem (by rw [hvs.out.1]; exact hlt))⟩
      have hk0 : (0 : Int) ≤ k := Int.natCast_nonneg _
      have hk1 : (k : Int) < n + 2 := by omega
      go_wp2_with fail
      exact ⟨⟨k + 1, by omega, by go_num, ⟨_, by rw [List.length_set]; exact hvs.out.1, hvs.out.2.set k _⟩, hc.out.setCell (.inl (by simp)) _⟩, by simp [intOf]; omega⟩
    · obtain rfl : k = n + 2 := by omega
      go_wp2_with fail
      go_end0
      exact ⟨rfl, hc.out⟩

end Go.Proofs.YtnkdgmnmmmjgjaaGreat
