/-
  Bytes as numbers, and numbers as bytes. No function of the program is named here. By an AI agent.
-/
import Derived.Test.YtnkdgmnmmmjgjaaGreatBG
namespace Go.Proofs.YtnkdgmnmmmjgjaaGreat
open Go.RowKit

/-- Numbers as bytes. -/
def nats (xs : List Int) : List Nat := xs.map Int.toNat

theorem nats_get {xs : List Int} (h : By xs) {k : Nat} (hk : k < xs.length) : ∃ y : Nat, xs.getD k 0 = (y : Int) ∧ y < 256 ∧ (nats xs).take (k + 1) = (nats xs).take k ++ [y] := by
  have hx := h.get k
  obtain ⟨y, hy⟩ := Int.eq_ofNat_of_zero_le hx.1
  refine ⟨y, hy, by omega, ?_⟩
  have hl : k < (nats xs).length := by simpa [nats] using hk
  rw [List.take_succ_eq_append_getElem hl]
  congr 2
  have : xs[k] = (y : Int) := by rw [← hy]; simp [List.getD, List.getElem?_eq_getElem hk]
  simp [nats, this]

/-- Bytes, each below 256. -/
def Bs (bs : List Nat) : Prop := ∀ b ∈ bs, b < 256

theorem nats_bs {xs : List Int} (h : By xs) : Bs (nats xs) := by
  intro b hb
  obtain ⟨x, hx, rfl⟩ := List.mem_map.1 hb
  have := h x hx
  omega

theorem nats_length (xs : List Int) : (nats xs).length = xs.length := by simp [nats]

/-- Numbers, as the cells have them. -/
def ints (bs : List Nat) : List Int := bs.map fun b : Nat => (b : Int)

theorem ints_length (bs : List Nat) : (ints bs).length = bs.length := by simp [ints]

theorem nats_ints (bs : List Nat) : nats (ints bs) = bs := by simp [nats, ints, Function.comp_def]

theorem ints_nats {xs : List Int} (h : By xs) : ints (nats xs) = xs := by
  unfold ints nats
  rw [List.map_map]
  have : ∀ x ∈ xs, ((fun b : Nat => (b : Int)) ∘ Int.toNat) x = id x := fun x hx => Int.toNat_of_nonneg (h x hx).1
  rw [List.map_congr_left this, List.map_id]

theorem ints_by {bs : List Nat} (h : Bs bs) : By (ints bs) := by
  intro x hx
  obtain ⟨b, hb, rfl⟩ := List.mem_map.1 hx
  have := h b hb
  omega

theorem ints_get (bs : List Nat) (j : Nat) : (ints bs).getD j 0 = ((bs.getD j 0 : Nat) : Int) := by
  unfold ints
  simp only [List.getD, List.getElem?_map]
  cases bs[j]? <;> rfl

theorem ints_set (bs : List Nat) (j x : Nat) : (ints (bs.set j x)).map (Value.int .u8) = ((ints bs).map (Value.int .u8)).set j (.int .u8 (x : Int)) := by
  unfold ints
  rw [List.map_set, List.map_set]

theorem nats_append (a b : List Int) : nats (a ++ b) = nats a ++ nats b := by simp [nats]

theorem nats_getD {xs : List Int} (h : By xs) {n k : Nat} (hk : k < n) (hn : n ≤ xs.length) : ∃ y : Nat, xs.getD k 0 = (y : Int) ∧ y < 256 ∧ ((nats xs).take n).getD k 0 = y := by
  have hx := h.get k
  obtain ⟨y, hy⟩ := Int.eq_ofNat_of_zero_le hx.1
  refine ⟨y, hy, by omega, ?_⟩
  have hl : k < xs.length := by omega
  rw [List.getD_eq_getElem?_getD, List.getElem?_take, if_pos hk]
  unfold nats
  rw [List.getElem?_map, List.getElem?_eq_getElem hl]
  rw [List.getD_eq_getElem?_getD, List.getElem?_eq_getElem hl] at hy
  simp at hy
  simp [hy]

end Go.Proofs.YtnkdgmnmmmjgjaaGreat

/-
  Two lists of bytes that are the same: SameBytes says so. By an AI agent.
-/
namespace Go.Proofs.YtnkdgmnmmmjgjaaGreat
open Go.RowKit

set_option maxHeartbeats 400000 in
theorem same_true (va vb : Value) (xs : List Int) (w : World) (ha : Sl w va xs) (hb : Sl w vb xs) (hbig : xs.length ≤ 140737488355328) :
    Calls Tryz.prog 33 #[va, vb] w fun e w' => e = .returned (.bool true) ∧ ∃ q, w' = w.drewN q := by
  obtain ⟨ao, ac, rfl⟩ := ha.slice
  obtain ⟨bo, bc, rfl⟩ := hb.slice
  have HA := Lib.hid ha
  have HB := Lib.hid hb
  clear ha hb
  go_enter Tryz.func33, Tryz.ntmps33
  go_wp2
  go_loopw [5] (fun i wr => ∃ k : Nat, k ≤ xs.length ∧ i = .int .i64 k ∧ ∃ q, wr = w.drewN q) (fun i _ => xs.length - (intOf i).toNat)
  case atStart => exact ⟨0, Nat.zero_le _, rfl, 0, rfl⟩
  case round =>
    obtain ⟨k, hk, rfl, q, rfl⟩ := hrel
    by_cases hlt : k < xs.length
    · have LA : ∃ g o, ao = some ⟨g, o, none⟩ ∧ w.cell? ⟨g, o + k, none⟩ = some (.int .u8 (xs.getD k 0)) := by
        rcases HA.out with ⟨rfl, _⟩ | ⟨g, o, c', hv, hb, hc⟩
        · simp at hlt
        · obtain ⟨rfl, rfl⟩ : ao = some ⟨g, o, none⟩ ∧ ac = c' := by simpa using hv
          exact ⟨g, o, rfl, hc k hlt⟩
      have LB : ∃ g o, bo = some ⟨g, o, none⟩ ∧ w.cell? ⟨g, o + k, none⟩ = some (.int .u8 (xs.getD k 0)) := by
        rcases HB.out with ⟨rfl, _⟩ | ⟨g, o, c', hv, hb, hc⟩
        · simp at hlt
        · obtain ⟨rfl, rfl⟩ : bo = some ⟨g, o, none⟩ ∧ bc = c' := by simpa using hv
          exact ⟨g, o, rfl, hc k hlt⟩
      obtain ⟨g, o, rfl, c1⟩ := LA
      obtain ⟨g2, o2, rfl, c2⟩ := LB
      generalize xs.getD k 0 = x at *
      have hi0 : (0 : Int) ≤ k := Int.natCast_nonneg _
      have hi1 : (k : Int) < xs.length := by omega
      go_wp2_with fail
      go_quiet (fail)
      go_wp2
      exact ⟨⟨k + 1, by omega, by go_num, _, rfl⟩, by simp [intOf]; omega⟩
    · go_wp2
      go_ret
      exact ⟨rfl, _, rfl⟩

end Go.Proofs.YtnkdgmnmmmjgjaaGreat

/-
  What lists that are lent need in common. No function of the program is named here. By an AI agent.
-/
namespace Go.Proofs.YtnkdgmnmmmjgjaaGreat
open Go.RowKit

theorem u8s_one (xs : List Int) : ∀ u ∈ xs.map (Value.int .u8), u.oneCell' = true := by
  intro u hu
  obtain ⟨x, _, rfl⟩ := List.mem_map.1 hu
  rfl

theorem add_block (a : Addr) (j : Nat) : (a.add j).block = a.block := by unfold Addr.add; split <;> rfl

theorem lent_cells {w w1 : World} {ad : Addr} {xs : List Int} (hcell : ∀ j u, (xs.map (Value.int .u8))[j]? = some u → w.cell? (ad.add j) = some u) (hlt : xs = [] ∨ ad.block < w.heap.size) (c : Chg [] w w1) :
    ∀ j u, (xs.map (Value.int .u8))[j]? = some u → w1.cell? (ad.add j) = some u := by
  intro j u hj
  rcases hlt with rfl | h
  · simp at hj
  · rw [← hcell j u hj]
    exact c.cell (by rw [add_block]; exact h) (by simp)

theorem two_cells (w : World) (x y : Value) (e : TypeId) : ∀ j u, [x, y][j]? = some u → (w.alloc (.cells #[x, y] e)).cell? ((⟨w.heap.size, 0, none⟩ : Addr).add j) = some u := by
  intro j u hj
  have := (Blk.made w [x, y] e).cell hj
  rw [Addr.add_lit, Nat.zero_add]
  exact this

end Go.Proofs.YtnkdgmnmmmjgjaaGreat
namespace Go.Proofs.YtnkdgmnmmmjgjaaGreat
open Go.RowKit

/-- What has been lent: in a block of its own. -/
def LentBy (w : World) (xs : List Int) (e : Ending) (w' : World) : Prop :=
  ∃ g, e = .returned (.slice (some ⟨g, 0, none⟩) xs.length (xs.length + 2)) ∧ Blk w' g 5 ((xs ++ [91, 92]).map (Value.int .u8)) ∧ Chg [] w w' ∧ w.heap.size ≤ g

set_option maxHeartbeats 1000000 in
set_option maxRecDepth 100000 in
theorem lent_some (ad : Addr) (c : Nat) (xs : List Int) (w : World) (hcell : ∀ j u, (xs.map (Value.int .u8))[j]? = some u → w.cell? (ad.add j) = some u) (hlt : xs = [] ∨ ad.block < w.heap.size) (hbig : xs.length ≤ 140737488355328) :
    Calls Tryz.prog 15 #[.slice (some ad) xs.length c] w (LentBy w xs) := by
  obtain ⟨i0, hi, hz0, hz1, hz2⟩ := info_parts info_u8
  have QC : Hid (∀ w1, Chg [] w w1 → ∀ j u, (xs.map (Value.int .u8))[j]? = some u → w1.cell? (ad.add j) = some u) := fun w1 h => lent_cells hcell hlt h
  have ON := Lib.hid (u8s_one xs)
  clear hcell hlt
  go_enter Tryz.func15, Tryz.ntmps15
  go_wp2_with (first
    | (at_make; refine wpList_make_own _ rfl _ _ 55 rfl w.heap.size 5 i0 (.int .u8 0) 1 Tryz.underlying55 hi hz0 hz1 .i64 .i64 _ (xs.length + 2) rfl rfl (by omega) (by rw [hz2]; omega) (by unfold maxLen; omega) (Nat.le_refl _) ?_; intro w1 hown hgrow; have C1 : Hid (Chg [] w w1) := (Chg.refl _ w).grown hgrow (by intro k hk; cases hk); have O1 := Lib.hid hown; clear hown hgrow)
    | (at_builtin; (refine wpList_append_fits _ rfl _ _ 55 rfl w.heap.size 5 i0 1 Tryz.underlying55 hi hz1 _ _ _ _ rfl O1.out ad xs.length c (xs.map (Value.int .u8)) rfl (by simp) (QC.out w1 C1.out) ON.out (by omega) ?_); intro w2 hown hgrow; have C2 : Hid (Chg [] w w2) := C1.out.grown hgrow (by intro k hk; simp at hk; omega); simp only [Nat.zero_add, List.nil_append] at hown; have O2 := Lib.hid hown; clear hown hgrow O1)
    | (at_builtin; refine wpList_append_fits _ rfl _ _ 55 rfl w.heap.size 5 i0 1 Tryz.underlying55 hi hz1 _ _ _ _ rfl (O2.out.alloc _) ⟨w2.heap.size, 0, none⟩ 2 2 [.int .u8 91, .int .u8 92] rfl rfl (two_cells _ _ _ _) (u8s_one [91, 92]) (by omega) ?_; intro w3 hown hgrow; have C3 : Hid (Chg [] w w3) := (C2.out.alloc _).grown hgrow (by intro k hk; simp at hk; omega); have O3 := Lib.hid hown; clear hown hgrow O2))
  go_ret
  exact ⟨w.heap.size, rfl, by simpa using (Blk.owned O3.out).1, C3.out, Nat.le_refl _⟩

set_option maxHeartbeats 1000000 in
set_option maxRecDepth 100000 in
theorem lent_none (c : Nat) (w : World) :
    Calls Tryz.prog 15 #[.slice none 0 c] w (LentBy w []) := by
  obtain ⟨i0, hi, hz0, hz1, hz2⟩ := info_parts info_u8
  go_enter Tryz.func15, Tryz.ntmps15
  go_wp2_with (first
    | (at_make; refine wpList_make_own _ rfl _ _ 55 rfl w.heap.size 5 i0 (.int .u8 0) 1 Tryz.underlying55 hi hz0 hz1 .i64 .i64 _ 2 rfl rfl (by omega) (by rw [hz2]; omega) (by unfold maxLen; omega) (Nat.le_refl _) ?_; intro w1 hown hgrow; have C1 : Hid (Chg [] w w1) := (Chg.refl _ w).grown hgrow (by intro k hk; cases hk); have O1 := Lib.hid hown; clear hown hgrow)
    | (at_builtin; refine wpList_append_nothing _ rfl _ _ 55 rfl w.heap.size 5 i0 1 Tryz.underlying55 hi _ _ _ rfl O1.out c rfl ?_; have O2 := Lib.hid O1.out; clear O1)
    | (at_builtin; refine wpList_append_fits _ rfl _ _ 55 rfl w.heap.size 5 i0 1 Tryz.underlying55 hi hz1 _ _ _ _ rfl (O2.out.alloc _) ⟨w1.heap.size, 0, none⟩ 2 2 [.int .u8 91, .int .u8 92] rfl rfl (two_cells _ _ _ _) (u8s_one [91, 92]) (by omega) ?_; intro w3 hown hgrow; have C3 : Hid (Chg [] w w3) := (C1.out.alloc _).grown hgrow (by intro k hk; simp at hk; omega); have O3 := Lib.hid hown; clear hown hgrow O2))
  go_ret
  exact ⟨w.heap.size, rfl, by simpa using (Blk.owned O3.out).1, C3.out, Nat.le_refl _⟩

theorem lent_any (v : Value) (xs : List Int) (w : World) (h : Sl w v xs) (hbig : xs.length ≤ 140737488355328) :
    Calls Tryz.prog 15 #[v] w (LentBy w xs) := by
  rcases h with ⟨rfl, ao, c, rfl⟩ | ⟨b, o, cp, rfl, hb, hc⟩
  · rcases ao with _ | a
    · exact lent_none c w
    · exact lent_some a c [] w (fun j u hj => by simp at hj) (.inl rfl) (by simp)
  · refine lent_some ⟨b, o, none⟩ cp xs w (fun j u hj => ?_) (.inr hb) hbig
    have hjn : j < xs.length := by
      have := (List.getElem?_eq_some_iff.1 hj).1
      simpa using this
    rw [Addr.add_lit, hc j hjn]
    rw [← hj]
    simp [List.getD, List.getElem?_eq_getElem hjn]

theorem Blk.sl {w : World} {g n : Nat} {xs ys : List Int} (h : Blk w g 5 ((xs ++ ys).map (Value.int .u8))) : Sl w (.slice (some ⟨g, 0, none⟩) xs.length n) xs :=
  .inr ⟨g, 0, n, rfl, h.lt, fun j hj => by rw [Nat.zero_add]; exact h.cell (by simp [List.getD, List.getElem?_append_left, hj])⟩

set_option maxHeartbeats 1000000 in
set_option maxRecDepth 100000 in
theorem whole_any (g : Nat) (v : Value) (xs : List Int) (w : World) (hb : Blk w g 5 ((xs ++ [91, 92]).map (Value.int .u8))) (h : Sl w v xs) (hbig : xs.length ≤ 140737488355328) :
    Calls Tryz.prog 17 #[.slice (some ⟨g, 0, none⟩) xs.length (xs.length + 2), v] w fun e w' => e = .returned (.bool true) ∧ ∃ q, w' = w.drewN q := by
  have c1 : w.cell? ⟨g, xs.length, none⟩ = some (.int .u8 91) := hb.cell (by simp)
  have c2 : w.cell? ⟨g, xs.length + 1, none⟩ = some (.int .u8 92) := hb.cell (by simp)
  obtain ⟨ao, c, rfl⟩ := h.slice
  have SA := Lib.hid (Blk.sl (n := xs.length + 2) hb)
  have SB := Lib.hid h
  clear hb h
  have hn0 : (0 : Int) ≤ xs.length := Int.natCast_nonneg _
  go_enter Tryz.func17, Tryz.ntmps17
  go_wp2_with fail
  refine (same_true _ _ _ _ SA.out SB.out hbig).mono ?_
  rintro e w' ⟨rfl, q, rfl⟩
  go_wp2_with fail
  go_ret
  exact ⟨rfl, _, rfl⟩

set_option maxHeartbeats 1000000 in
set_option maxRecDepth 100000 in
theorem spoil_any (g n : Nat) (xs : List Int) (w : World) (hb : Blk w g 5 (xs.map (Value.int .u8))) (hn : xs.length = n + 2) (hbig : n ≤ 140737488355328) :
    Calls Tryz.prog 18 #[.slice (some ⟨g, 0, none⟩) n (n + 2)] w fun e w' => e = .returned (.tuple #[]) ∧ Chg [g] w w' := by
  have HB := Lib.hid hb
  have HN := Lib.hid hn
  clear hb hn
  have hn0 : (0 : Int) ≤ n := Int.natCast_nonneg _
  go_enter Tryz.func18, Tryz.ntmps18
  go_wp2_with fail
  go_loopw [3] (fun i wr => ∃ k : Nat, k ≤ n + 2 ∧ i = .int .i64 k ∧ (∃ vs, Hid (vs.length = n + 2 ∧ Blk wr g 5 vs)) ∧ Hid (Chg [g] w wr)) (fun i _ => n + 2 - (intOf i).toNat)
  case atStart => exact ⟨0, Nat.zero_le _, rfl, ⟨_, by rw [List.length_map]; exact HN, HB.out⟩, Chg.refl _ _⟩
  case round =>
    obtain ⟨k, hk, rfl, ⟨vs, hvs⟩, hc⟩ := hrel
    by_cases hlt : k < n + 2
    · have f1 := hvs.out.2.free k
      obtain ⟨u, hu⟩ : ∃ u, wr.cell? ⟨g, k, none⟩ = some u := ⟨_, hvs.out.2.cell (List.getElem?_eq_getElem (by rw [hvs.out.1]; exact hlt))⟩
      have hk0 : (0 : Int) ≤ k := Int.natCast_nonneg _
      have hk1 : (k : Int) < n + 2 := by omega
      go_wp2_with fail
      exact ⟨⟨k + 1, by omega, by go_num, ⟨_, by rw [List.length_set]; exact hvs.out.1, hvs.out.2.set k _⟩, hc.out.setCell (.inl (by simp)) _⟩, by simp [intOf]; omega⟩
    · obtain rfl : k = n + 2 := by omega
      go_wp2_with fail
      go_end0
      exact ⟨rfl, hc.out⟩

end Go.Proofs.YtnkdgmnmmmjgjaaGreat

/-
  The book's own walks over lists of which there are none. By an AI agent.
-/
namespace Go.Proofs.YtnkdgmnmmmjgjaaGreat
open Go.RowKit

set_option maxRecDepth 100000 in
theorem ownBytes_none (w : World) :
    Calls Tryz.prog 34 #[.slice none 0 0] w fun e w' => e = .returned (.bool true) ∧ w = w' := by
  go_enter Tryz.func34, Tryz.ntmps34
  go_wp2
  iterate 3 (try (refine wp_loop_rounds 1 ?_; rw [rounds_succ]; go_wp2))
  go_ret
  exact ⟨rfl, rfl⟩

set_option maxRecDepth 100000 in
theorem ownTexts_none (w : World) :
    Calls Tryz.prog 35 #[.slice none 0 0] w fun e w' => e = .returned (.bool true) ∧ w = w' := by
  go_enter Tryz.func35, Tryz.ntmps35
  go_wp2
  iterate 3 (try (refine wp_loop_rounds 1 ?_; rw [rounds_succ]; go_wp2))
  go_ret
  exact ⟨rfl, rfl⟩

set_option maxRecDepth 100000 in
theorem ownInts_none (w : World) :
    Calls Tryz.prog 36 #[.slice none 0 0] w fun e w' => e = .returned (.bool true) ∧ w = w' := by
  go_enter Tryz.func36, Tryz.ntmps36
  go_wp2
  iterate 3 (try (refine wp_loop_rounds 1 ?_; rw [rounds_succ]; go_wp2))
  go_ret
  exact ⟨rfl, rfl⟩

set_option maxRecDepth 100000 in
theorem ownNumbers_none (w : World) :
    Calls Tryz.prog 37 #[.slice none 0 0] w fun e w' => e = .returned (.bool true) ∧ w = w' := by
  go_enter Tryz.func37, Tryz.ntmps37
  go_wp2
  iterate 3 (try (refine wp_loop_rounds 1 ?_; rw [rounds_succ]; go_wp2))
  go_ret
  exact ⟨rfl, rfl⟩

set_option maxRecDepth 100000 in
theorem ownErrs_none (w : World) :
    Calls Tryz.prog 38 #[.slice none 0 0] w fun e w' => e = .returned (.bool true) ∧ w = w' := by
  go_enter Tryz.func38, Tryz.ntmps38
  go_wp2
  iterate 3 (try (refine wp_loop_rounds 1 ?_; rw [rounds_succ]; go_wp2))
  go_ret
  exact ⟨rfl, rfl⟩

set_option maxRecDepth 100000 in
theorem ownSpans_none (w : World) :
    Calls Tryz.prog 39 #[.slice none 0 0] w fun e w' => e = .returned (.bool true) ∧ w = w' := by
  go_enter Tryz.func39, Tryz.ntmps39
  go_wp2
  iterate 3 (try (refine wp_loop_rounds 1 ?_; rw [rounds_succ]; go_wp2))
  go_ret
  exact ⟨rfl, rfl⟩

set_option maxRecDepth 100000 in
theorem ownStates_none (w : World) :
    Calls Tryz.prog 40 #[.slice none 0 0] w fun e w' => e = .returned (.bool true) ∧ w = w' := by
  go_enter Tryz.func40, Tryz.ntmps40
  go_wp2
  iterate 3 (try (refine wp_loop_rounds 1 ?_; rw [rounds_succ]; go_wp2))
  go_ret
  exact ⟨rfl, rfl⟩

set_option maxRecDepth 100000 in
theorem ownRows_none (w : World) :
    Calls Tryz.prog 42 #[.slice none 0 0] w fun e w' => e = .returned (.bool true) ∧ w = w' := by
  go_enter Tryz.func42, Tryz.ntmps42
  go_wp2
  iterate 3 (try (refine wp_loop_rounds 1 ?_; rw [rounds_succ]; go_wp2))
  go_ret
  exact ⟨rfl, rfl⟩

set_option maxRecDepth 100000 in
theorem ownPuts_none (w : World) :
    Calls Tryz.prog 43 #[.slice none 0 0] w fun e w' => e = .returned (.bool true) ∧ w = w' := by
  go_enter Tryz.func43, Tryz.ntmps43
  go_wp2
  iterate 3 (try (refine wp_loop_rounds 1 ?_; rw [rounds_succ]; go_wp2))
  go_ret
  exact ⟨rfl, rfl⟩

set_option maxRecDepth 100000 in
theorem ownPatches_none (w : World) :
    Calls Tryz.prog 44 #[.slice none 0 0] w fun e w' => e = .returned (.bool true) ∧ w = w' := by
  go_enter Tryz.func44, Tryz.ntmps44
  go_wp2
  iterate 3 (try (refine wp_loop_rounds 1 ?_; rw [rounds_succ]; go_wp2))
  go_ret
  exact ⟨rfl, rfl⟩

set_option maxRecDepth 100000 in
theorem ownTxns_none (w : World) :
    Calls Tryz.prog 45 #[.slice none 0 0] w fun e w' => e = .returned (.bool true) ∧ w = w' := by
  go_enter Tryz.func45, Tryz.ntmps45
  go_wp2
  iterate 3 (try (refine wp_loop_rounds 1 ?_; rw [rounds_succ]; go_wp2))
  go_ret
  exact ⟨rfl, rfl⟩

theorem info_boolss : (Tryz.prog.info? 146).map (fun i => (i.zero, i.size, i.bytes)) = some (some (.slice none 0 0), 1, 24) := by kernel_rfl

set_option maxRecDepth 100000 in
theorem ownBools_none (w : World) :
    Calls Tryz.prog 41 #[.slice none 0 0] w fun e w' => e = .returned (.bool true) ∧ Chg [] w w' := by
  obtain ⟨j0, ki, kz0, kz1, kz2⟩ := info_parts info_boolss
  go_enter Tryz.func41, Tryz.ntmps41
  go_wp2_with (at_make; refine wpList_make_full _ rfl _ _ 44 rfl w.heap.size 146 j0 (.slice none 0 0) 1 Tryz.underlying44 ki kz0 kz1 .i64 .i64 _ _ 0 rfl rfl rfl rfl (by omega) (by unfold maxLen; omega) (Nat.le_refl _) ?_; intro w1 hown hgrow)
  refine wp_loop_rounds 1 ?_
  rw [rounds_succ]
  go_wp2
  go_ret
  exact ⟨rfl, (Chg.refl _ _).grown hgrow (by intro k hk; cases hk)⟩

end Go.Proofs.YtnkdgmnmmmjgjaaGreat
