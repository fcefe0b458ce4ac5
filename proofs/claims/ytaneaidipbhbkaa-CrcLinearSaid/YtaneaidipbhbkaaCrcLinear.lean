/-
  CrcLinear walked. By an AI agent.
-/
import Derived.Test.YtaneaidipbhbkaaCrcBursts
import Derived.Deep.OwnRows
namespace Go.Proofs.Ytaneaidipbhbkaa
open Go.RowKit
open Crc

/-- The exclusive or of two texts, as far as n bytes. -/
def both (a b : List Nat) : List Nat := List.zipWith (· ^^^ ·) a b

theorem both_get {a b : List Nat} (h : a.length = b.length) {j : Nat} (hj : j < a.length) : (both a b).getD j 0 = a.getD j 0 ^^^ b.getD j 0 := by
  unfold both
  rw [List.getD_eq_getElem?_getD, List.getD_eq_getElem?_getD, List.getD_eq_getElem?_getD, List.getElem?_zipWith, List.getElem?_eq_getElem hj, List.getElem?_eq_getElem (show j < b.length by omega)]
  rfl

theorem both_bs {a b : List Nat} (ha : Bs a) (hb : Bs b) : Bs (both a b) := by
  intro x hx
  unfold both at hx
  obtain ⟨i, hi, rfl⟩ := List.mem_iff_getElem.1 hx
  rw [List.getElem_zipWith]
  exact Nat.xor_lt_two_pow (n := 8) (ha _ (List.getElem_mem _)) (hb _ (List.getElem_mem _))

/-- What lies in the new row, as far as k bytes of it have been written. -/
structure Mixed (w0 w : World) (g n k : Nat) (zs : List Nat) : Prop where
  blk : ∃ vs : List Value, vs.length = n ∧ Blk w g 5 vs ∧ ∀ i, i < k → vs[i]? = some (.int .u8 ((zs.getD i 0 : Nat) : Int))
  chg : Chg [] w0 w

theorem Mixed.step {w0 w : World} {g n k : Nat} {zs : List Nat} (h : Mixed w0 w g n k zs) (hk : k < n) (hg : w0.heap.size ≤ g) : Mixed w0 (w.setCell ⟨g, k, none⟩ (.int .u8 ((zs.getD k 0 : Nat) : Int))) g n (k + 1) zs := by
  obtain ⟨vs, hl, hb, hv⟩ := h.blk
  refine ⟨⟨_, by rw [List.length_set]; exact hl, hb.set k _, fun i hi => ?_⟩, h.chg.setCell (.inr hg) _⟩
  by_cases hik : i = k
  · subst hik
    rw [List.getElem?_set_self (by omega)]
  · rw [List.getElem?_set_ne (by omega)]
    exact hv i (by omega)

theorem Mixed.old {w0 w : World} {g n k : Nat} {zs : List Nat} (h : Mixed w0 w g n k zs) (hk : k < n) : (∃ u, w.cell? ⟨g, k, none⟩ = some u) ∧ w.frozen? ⟨g, k, none⟩ = false := by
  obtain ⟨vs, hl, hb, hv⟩ := h.blk
  exact ⟨⟨_, hb.cell (List.getElem?_eq_getElem (by omega))⟩, hb.free k⟩

theorem Mixed.sl {w0 w : World} {g n : Nat} {zs : List Nat} (h : Mixed w0 w g n n zs) (hl : zs.length = n) : Sl w (.slice (some ⟨g, 0, none⟩) n n) (ints zs) := by
  obtain ⟨vs, _, hb, hv⟩ := h.blk
  refine .inr ⟨g, 0, n, by rw [ints_length, hl], hb.lt, fun j hj => ?_⟩
  rw [ints_length, hl] at hj
  rw [Nat.zero_add, ints_get]
  exact hb.cell (hv j hj)

theorem sl_cell {w : World} {ao : Option Addr} {n c : Nat} {xs : List Int} (h : Sl w (.slice ao n c) xs) {k : Nat} (hk : k < n) : ∃ g o, ao = some ⟨g, o, none⟩ ∧ g < w.heap.size ∧ w.cell? ⟨g, o + k, none⟩ = some (.int .u8 (xs.getD k 0)) := by
  rcases h with ⟨rfl, _, _, hv⟩ | ⟨g, o, c', hv, hb, hc⟩
  · simp at hv; omega
  · obtain ⟨rfl, rfl, rfl⟩ : ao = some ⟨g, o, none⟩ ∧ n = xs.length ∧ c = c' := by simpa using hv
    exact ⟨g, o, rfl, hb, hc k hk⟩

/-- A world that is another but for new blocks and draws, as the rows of it read. -/
theorem sl_new (X : World) (n : Nat) : Sl (X.alloc (.cells (madeCells #[.int .u8 0] n) 5)) (.slice (some ⟨X.heap.size, 0, none⟩) n n) (ints (List.replicate n 0)) := by
  have e : (X.alloc (.cells (madeCells #[.int .u8 0] n) 5)) = X.alloc (.cells (((ints (List.replicate n 0)).map (Value.int .u8)).toArray) 5) := by
    congr 2
    apply Array.toList_inj.1
    rw [toList_madeCells_one]
    simp [ints]
  rw [e]
  have := sl_made X (ints (List.replicate n 0)) n (0, 0)
  rw [ints_length, List.length_replicate] at this
  exact this

theorem info_u8' : (Try.prog.info? 5).map (fun i => (i.zero, i.size, i.bytes)) = some (some (.int .u8 0), 1, 1) := info_u8

theorem nats_getD {xs : List Int} (h : By xs) {n k : Nat} (hk : k < n) (hn : n ≤ xs.length) : ∃ y : Nat, xs.getD k 0 = (y : Int) ∧ y < 256 ∧ ((nats xs).take n).getD k 0 = y := by
  have hx := h.get k
  obtain ⟨y, hy⟩ := Int.eq_ofNat_of_zero_le hx.1
  refine ⟨y, hy, by omega, ?_⟩
  have hl : k < xs.length := by omega
  rw [List.getD_eq_getElem?_getD, List.getElem?_take, if_pos hk]
  unfold nats
  rw [List.getElem?_map, List.getElem?_eq_getElem hl]
  rw [List.getD_eq_getElem?_getD, List.getElem?_eq_getElem hl] at hy
  simp at hy
  simp [hy]

set_option maxHeartbeats 4000000 in
set_option maxRecDepth 100000 in
theorem linear_walk (ao bo : Option Addr) (c d n : Nat) (xs ys : List Int) (w : World) (hx : Sl w (.slice ao xs.length c) xs) (hy : Sl w (.slice bo ys.length d) ys) (hc : xs.length ≤ c) (hd : ys.length ≤ d) (hbx : By xs) (hby : By ys)
    (hm : min (xs.length : Int) (ys.length : Int) = (n : Int)) (hn : n ≤ 100000) :
    Calls Try.prog 6 #[.slice ao xs.length c, .slice bo ys.length d] w fun e w' => e = .returned (.bool true) ∧ Chg [] w w' := by
  have hnx : n ≤ xs.length := by omega
  have hny : n ≤ ys.length := by omega
  have mk := fun w => run_make_row' (P := Try.prog) 23 5 (.int .u8 0) 1 Try.underlying23 info_u8 rfl .i64 .i64 n (by omega) (by omega) w
  have HX := Lib.hid hx
  have HY := Lib.hid hy
  have BX := Lib.hid hbx
  have BY := Lib.hid hby
  clear hx hy hbx hby
  have hl : ¬ (100000 : Int) < n := by omega
  go_enter Try.func6, Try.ntmps6
  go_wp2_with fail
  have M0 : Hid (Mixed w (w.alloc (.cells (madeCells #[.int .u8 0] n) 5)) w.heap.size n 0 (both ((nats xs).take n) ((nats ys).take n))) :=
    ⟨⟨_, by rw [toList_madeCells_one, List.length_replicate], Blk.made w (madeCells #[.int .u8 0] n).toList _, fun i hi => by omega⟩, (Chg.refl _ _).alloc _⟩
  generalize hzs : both ((nats xs).take n) ((nats ys).take n) = zs at *
  replace hzs := Lib.hid hzs
  generalize hw1 : w.alloc (.cells (madeCells #[.int .u8 0] n) 5) = w1 at *
  clear hw1
  go_loopw [7] (fun i wr => ∃ k : Nat, k ≤ n ∧ i = .int .i64 k ∧ Hid (Mixed w wr w.heap.size n k zs)) (fun i _ => n - (intOf i).toNat)
  case atStart => exact ⟨0, Nat.zero_le _, rfl, M0⟩
  case round =>
    obtain ⟨k, hk, rfl, M⟩ := hrel
    clear M0
    by_cases hlt : k < n
    · obtain ⟨g1, o1, rfl, hg1, c1⟩ := sl_cell (HX.out.chg M.out.chg (by simp)) (k := k) (by omega)
      obtain ⟨g2, o2, rfl, hg2, c2⟩ := sl_cell (HY.out.chg M.out.chg (by simp)) (k := k) (by omega)
      obtain ⟨⟨u, hu⟩, f0⟩ := M.out.old hlt
      have S := M.out.step hlt (Nat.le_refl _)
      obtain ⟨y1, e1, l1, t1⟩ := nats_getD BX.out hlt hnx
      obtain ⟨y2, e2, l2, t2⟩ := nats_getD BY.out hlt hny
      have hz : zs.getD k 0 = y1 ^^^ y2 := by
        rw [← hzs.out, both_get (by simp [nats]; omega) (by simp [nats]; omega), t1, t2]
      have hx8 := u8_xor_nat y1 y2 l1 l2
      rw [e1] at c1
      rw [e2] at c2
      rw [hz] at S
      replace S := Lib.hid (show Mixed _ _ _ _ _ _ from S)
      clear e1 e2 t1 t2 hz
      generalize y1 ^^^ y2 = y at *
      have hk0 : (0 : Int) ≤ k := Int.natCast_nonneg _
      have hk1 : (k : Int) < n := by omega
      have hk2 : (k : Int) < xs.length := by omega
      have hk3 : (k : Int) < ys.length := by omega
      go_wp2_with fail
      go_region
      go_wp2_with fail
      exact ⟨⟨k + 1, by omega, by go_num, ⟨S.out.blk, S.out.chg.drew⟩⟩, by simp [intOf]; omega⟩
    · obtain rfl : k = n := by omega
      have hzl : zs.length = k := by rw [← hzs.out]; simp [both, nats]; omega
      have hbA : Bs ((nats xs).take k) := fun b hb => nats_bs BX.out b (List.mem_of_mem_take hb)
      have hbB : Bs ((nats ys).take k) := fun b hb => nats_bs BY.out b (List.mem_of_mem_take hb)
      have hbC : Bs zs := by rw [← hzs.out]; exact both_bs hbA hbB
      have hlin := linear ((nats xs).take k) ((nats ys).take k) (by simp [nats]; omega)
      rw [show List.zipWith (· ^^^ ·) ((nats xs).take k) ((nats ys).take k) = zs from hzs.out, show ((nats xs).take k).length = k by simp [nats]; omega] at hlin
      have sA : ∀ w', Chg [] wr w' → Calls Try.prog 10 #[.slice ao k c] w' fun e w'' => e = .returned (.int .u32 (sum ((nats xs).take k))) ∧ Hid (Chg [] w' w'') := fun w' h => by
        have := sum_any _ (xs.take k) w' ((HX.out.chg (M.out.chg.trans h) (by simp)).pre k hnx) (BX.out.take k) (by simp; omega)
        rw [show nats (xs.take k) = (nats xs).take k from List.map_take] at this
        exact this
      have sB : ∀ w', Chg [] wr w' → Calls Try.prog 10 #[.slice bo k d] w' fun e w'' => e = .returned (.int .u32 (sum ((nats ys).take k))) ∧ Hid (Chg [] w' w'') := fun w' h => by
        have := sum_any _ (ys.take k) w' ((HY.out.chg (M.out.chg.trans h) (by simp)).pre k hny) (BY.out.take k) (by simp; omega)
        rw [show nats (ys.take k) = (nats ys).take k from List.map_take] at this
        exact this
      have sC : ∀ w', Chg [] wr w' → Calls Try.prog 10 #[.slice (some ⟨w.heap.size, 0, none⟩) k k] w' fun e w'' => e = .returned (.int .u32 (sum zs)) ∧ Hid (Chg [] w' w'') := fun w' h => by
        have := sum_any _ (ints zs) w' ((M.out.sl hzl).chg h (by simp)) (ints_by hbC) (by rw [ints_length]; omega)
        rw [nats_ints] at this
        exact this
      have sD : ∀ (X : World) w', Chg [] (X.alloc (.cells (madeCells #[.int .u8 0] k) 5)) w' → Calls Try.prog 10 #[.slice (some ⟨X.heap.size, 0, none⟩) k k] w' fun e w'' => e = .returned (.int .u32 (sum (List.replicate k 0))) ∧ Hid (Chg [] w' w'') := fun X w' h => by
        have hb0 : Bs (List.replicate k 0) := fun b hb => by rw [(List.mem_replicate.1 hb).2]; decide
        have := sum_any _ (ints (List.replicate k 0)) w' ((sl_new X k).chg h (by simp)) (ints_by hb0) (by rw [ints_length, List.length_replicate]; omega)
        rw [nats_ints] at this
        exact this
      have lA : sum ((nats xs).take k) < 4294967296 := more_lt (by decide) hbA
      have lB : sum ((nats ys).take k) < 4294967296 := more_lt (by decide) hbB
      have lC : sum zs < 4294967296 := more_lt (by decide) hbC
      have lD : sum (List.replicate k 0) < 4294967296 := more_lt (by decide) (fun b hb => by rw [(List.mem_replicate.1 hb).2]; decide)
      generalize sum ((nats xs).take k) = A at *
      generalize sum ((nats ys).take k) = B at *
      generalize sum zs = C at *
      generalize sum (List.replicate k 0) = D at *
      have x1 := u32_xor_nat A B lA lB
      have x2 := u32_xor_nat (A ^^^ B) C (Nat.xor_lt_two_pow (n := 32) lA lB) lC
      have x3 := u32_xor_nat (A ^^^ B ^^^ C) D (Nat.xor_lt_two_pow (n := 32) (Nat.xor_lt_two_pow (n := 32) lA lB) lC) lD
      rw [hlin, show ((0 : Nat) : Int) = 0 from rfl] at x3
      replace sA := Lib.hid sA
      replace sB := Lib.hid sB
      replace sC := Lib.hid sC
      replace sD := Lib.hid sD
      have hc1 : (k : Int) ≤ c := by omega
      have hd1 : (k : Int) ≤ d := by omega
      generalize hg : w.heap.size = g at *
      clear hlin lA lB lC lD hbA hbB hbC hzl
      go_wp2_with fail
      refine wp_region_any (by kernel_rfl) ?_
      change wpAny _ _ _ _ _ _ _ (World.drew _)
      refine wpAny_ready (rs := [0]) (by kernel_rfl) (by simp) ?_
      refine AllReady.cons rfl (fun K hK => ?_) AllReady.nil
      go_simp
      go_wp2_with (go_at_call 15; refine (known_any _).mono ?_; rintro e w' ⟨rfl, DD⟩)
      refine wpAny_take (i := 1) (v := ?_) rfl (by kernel_rfl) (by kernel_rfl) (by kernel_rfl) (fun _ _ _ h => h) (Or.inl ⟨by rfl, ?_⟩) ?_
      rotate_left
      · intro w; go_simp; try with_reducible rfl
      simp [Act.put]
      refine wpAny_take (i := 2) (v := ?_) rfl (by kernel_rfl) (by kernel_rfl) (by kernel_rfl) (fun _ _ _ h => h) (Or.inl ⟨by rfl, ?_⟩) ?_
      rotate_left
      · intro w; go_simp; try with_reducible rfl
      simp [Act.put]
      refine wpAny_take (i := 3) (v := ?_) rfl (by kernel_rfl) (by kernel_rfl) (by kernel_rfl) (fun _ _ _ h => h) (Or.inl ⟨by rfl, ?_⟩) ?_
      rotate_left
      · intro w; go_simp; try with_reducible rfl
      simp [Act.put]
      refine wpAny_take (i := 4) (v := ?_) rfl (by kernel_rfl) (by kernel_rfl) (by kernel_rfl) (fun _ _ _ h => h) (Or.inl ⟨by rfl, ?_⟩) ?_
      rotate_left
      · intro w; go_simp; try with_reducible rfl
      simp [Act.put]
      refine wpAny_take (i := 6) (v := ?_) rfl (by kernel_rfl) (by kernel_rfl) (by kernel_rfl) (fun _ _ _ h => h) (Or.inl ⟨by rfl, ?_⟩) ?_
      rotate_left
      · intro w; go_simp; try with_reducible rfl
      simp [Act.put]
      refine wpAny_take (i := 7) (v := ?_) rfl (by kernel_rfl) (by kernel_rfl) (by kernel_rfl) (fun _ _ _ h => h) (Or.inl ⟨by rfl, ?_⟩) ?_
      rotate_left
      · intro w; go_simp; try with_reducible rfl
      simp [Act.put]
      refine wpAny_take (i := 8) (v := ?_) rfl (by kernel_rfl) (by kernel_rfl) (by kernel_rfl) (fun _ _ _ h => h) (Or.inl ⟨by rfl, ?_⟩) ?_
      rotate_left
      · intro w; go_simp; try with_reducible rfl
      simp [Act.put]
      refine wpAny_take (i := 11) (v := ?_) rfl (by kernel_rfl) (by kernel_rfl) (by kernel_rfl) (fun _ _ _ h => h) (Or.inl ⟨by rfl, ?_⟩) ?_
      rotate_left
      · intro w; go_simp; try with_reducible rfl
      simp [Act.put]
      refine wpAny_take (i := 14) (v := ?_) rfl (by kernel_rfl) (by kernel_rfl) (by kernel_rfl) (fun _ _ _ h => h) (Or.inl ⟨by rfl, ?_⟩) ?_
      rotate_left
      · intro w; go_simp; try with_reducible rfl
      simp [Act.put]
      refine wpAny_ready (rs := [5, 15]) (by kernel_rfl) (by simp) ?_
      refine AllReady.cons rfl (fun K hK => ?_) ?_
      · skip
        go_simp
        go_wp2_with (go_at_call 10; refine (sA.out _ ?_).mono ?_; (repeat (first | exact Chg.refl _ _ | refine Chg.trans ?_ ((by assumption : Hid (Chg [] _ _)).out) | with_reducible refine Chg.alloc ?_ _ | with_reducible apply Chg.drew | with_reducible apply Chg.drewN)); rintro e w' ⟨rfl, DD⟩)
        refine wpAny_ready (rs := [9, 15]) (by kernel_rfl) (by simp) ?_
        refine AllReady.cons rfl (fun K hK => ?_) ?_
        · skip
          go_simp
          go_wp2_with (go_at_call 10; refine (sB.out _ ?_).mono ?_; (repeat (first | exact Chg.refl _ _ | refine Chg.trans ?_ ((by assumption : Hid (Chg [] _ _)).out) | with_reducible refine Chg.alloc ?_ _ | with_reducible apply Chg.drew | with_reducible apply Chg.drewN)); rintro e w' ⟨rfl, DD⟩)
          refine wpAny_take (i := 10) (v := ?_) rfl (by kernel_rfl) (by kernel_rfl) (by kernel_rfl) (fun _ _ _ h => h) (Or.inl ⟨by rfl, ?_⟩) ?_
          rotate_left
          · intro w; go_simp; try with_reducible rfl
          simp [Act.put]
          refine wpAny_ready (rs := [12, 15]) (by kernel_rfl) (by simp) ?_
          refine AllReady.cons rfl (fun K hK => ?_) ?_
          · skip
            go_simp
            go_wp2_with (go_at_call 10; refine (sC.out _ ?_).mono ?_; (repeat (first | exact Chg.refl _ _ | refine Chg.trans ?_ ((by assumption : Hid (Chg [] _ _)).out) | with_reducible refine Chg.alloc ?_ _ | with_reducible apply Chg.drew | with_reducible apply Chg.drewN)); rintro e w' ⟨rfl, DD⟩)
            refine wpAny_take (i := 13) (v := ?_) rfl (by kernel_rfl) (by kernel_rfl) (by kernel_rfl) (fun _ _ _ h => h) (Or.inl ⟨by rfl, ?_⟩) ?_
            rotate_left
            · intro w; go_simp; try with_reducible rfl
            simp [Act.put]
            refine wpAny_ready (rs := [15]) (by kernel_rfl) (by simp) ?_
            refine AllReady.cons rfl (fun K hK => ?_) AllReady.nil
            go_simp
            refine hK _ _ ?_
            clear hK K
            refine wpAny_ready (rs := [16]) (by kernel_rfl) (by simp) ?_
            refine AllReady.cons rfl (fun K hK => ?_) AllReady.nil
            go_simp
            go_wp2_with (go_at_call 10; refine (sD.out _ _ ?_).mono ?_; (repeat (first | exact Chg.refl _ _ | refine Chg.trans ?_ ((by assumption : Hid (Chg [] _ _)).out) | with_reducible refine Chg.alloc ?_ _ | with_reducible apply Chg.drew | with_reducible apply Chg.drewN)); rintro e w' ⟨rfl, DD⟩)
            refine wpAny_take (i := 17) (v := ?_) rfl (by kernel_rfl) (by kernel_rfl) (by kernel_rfl) (fun _ _ _ h => h) (Or.inl ⟨by rfl, ?_⟩) ?_
            rotate_left
            · intro w; go_simp; try with_reducible rfl
            simp [Act.put]
            refine wpAny_take (i := 18) (v := ?_) rfl (by kernel_rfl) (by kernel_rfl) (by kernel_rfl) (fun _ _ _ h => h) (Or.inl ⟨by rfl, ?_⟩) ?_
            rotate_left
            · intro w; go_simp; try with_reducible rfl
            simp [Act.put]
            refine wpAny_take (i := 19) (v := ?_) rfl (by kernel_rfl) (by kernel_rfl) (by kernel_rfl) (fun _ _ _ h => h) (Or.inl ⟨by rfl, ?_⟩) ?_
            rotate_left
            · intro w; go_simp; try with_reducible rfl
            simp [Act.put]
            refine wpAny_take (i := 20) (v := ?_) rfl (by kernel_rfl) (by kernel_rfl) (by kernel_rfl) (fun _ _ _ h => h) (Or.inl ⟨by rfl, ?_⟩) ?_
            rotate_left
            · intro w; go_simp; try with_reducible rfl
            simp [Act.put]
            refine wpAny_done (by kernel_rfl) ?_ _
            go_wp2_with fail
            go_ret
            exact ⟨rfl, M.out.chg.trans (by repeat (first | exact Chg.refl _ _ | refine Chg.trans ?_ ((by assumption : Hid (Chg [] _ _)).out) | with_reducible refine Chg.alloc ?_ _ | with_reducible apply Chg.drew | with_reducible apply Chg.drewN))⟩
          refine AllReady.cons rfl (fun K hK => ?_) AllReady.nil
          go_simp
          refine hK _ _ ?_
          clear hK K
          refine wpAny_ready (rs := [12]) (by kernel_rfl) (by simp) ?_
          refine AllReady.cons rfl (fun K hK => ?_) AllReady.nil
          go_simp
          go_wp2_with (go_at_call 10; refine (sC.out _ ?_).mono ?_; (repeat (first | exact Chg.refl _ _ | refine Chg.trans ?_ ((by assumption : Hid (Chg [] _ _)).out) | with_reducible refine Chg.alloc ?_ _ | with_reducible apply Chg.drew | with_reducible apply Chg.drewN)); rintro e w' ⟨rfl, DD⟩)
          refine wpAny_take (i := 13) (v := ?_) rfl (by kernel_rfl) (by kernel_rfl) (by kernel_rfl) (fun _ _ _ h => h) (Or.inl ⟨by rfl, ?_⟩) ?_
          rotate_left
          · intro w; go_simp; try with_reducible rfl
          simp [Act.put]
          refine wpAny_ready (rs := [16]) (by kernel_rfl) (by simp) ?_
          refine AllReady.cons rfl (fun K hK => ?_) AllReady.nil
          go_simp
          go_wp2_with (go_at_call 10; refine (sD.out _ _ ?_).mono ?_; (repeat (first | exact Chg.refl _ _ | refine Chg.trans ?_ ((by assumption : Hid (Chg [] _ _)).out) | with_reducible refine Chg.alloc ?_ _ | with_reducible apply Chg.drew | with_reducible apply Chg.drewN)); rintro e w' ⟨rfl, DD⟩)
          refine wpAny_take (i := 17) (v := ?_) rfl (by kernel_rfl) (by kernel_rfl) (by kernel_rfl) (fun _ _ _ h => h) (Or.inl ⟨by rfl, ?_⟩) ?_
          rotate_left
          · intro w; go_simp; try with_reducible rfl
          simp [Act.put]
          refine wpAny_take (i := 18) (v := ?_) rfl (by kernel_rfl) (by kernel_rfl) (by kernel_rfl) (fun _ _ _ h => h) (Or.inl ⟨by rfl, ?_⟩) ?_
          rotate_left
          · intro w; go_simp; try with_reducible rfl
          simp [Act.put]
          refine wpAny_take (i := 19) (v := ?_) rfl (by kernel_rfl) (by kernel_rfl) (by kernel_rfl) (fun _ _ _ h => h) (Or.inl ⟨by rfl, ?_⟩) ?_
          rotate_left
          · intro w; go_simp; try with_reducible rfl
          simp [Act.put]
          refine wpAny_take (i := 20) (v := ?_) rfl (by kernel_rfl) (by kernel_rfl) (by kernel_rfl) (fun _ _ _ h => h) (Or.inl ⟨by rfl, ?_⟩) ?_
          rotate_left
          · intro w; go_simp; try with_reducible rfl
          simp [Act.put]
          refine wpAny_done (by kernel_rfl) ?_ _
          go_wp2_with fail
          go_ret
          exact ⟨rfl, M.out.chg.trans (by repeat (first | exact Chg.refl _ _ | refine Chg.trans ?_ ((by assumption : Hid (Chg [] _ _)).out) | with_reducible refine Chg.alloc ?_ _ | with_reducible apply Chg.drew | with_reducible apply Chg.drewN))⟩
        refine AllReady.cons rfl (fun K hK => ?_) AllReady.nil
        go_simp
        refine hK _ _ ?_
        clear hK K
        refine wpAny_ready (rs := [9]) (by kernel_rfl) (by simp) ?_
        refine AllReady.cons rfl (fun K hK => ?_) AllReady.nil
        go_simp
        go_wp2_with (go_at_call 10; refine (sB.out _ ?_).mono ?_; (repeat (first | exact Chg.refl _ _ | refine Chg.trans ?_ ((by assumption : Hid (Chg [] _ _)).out) | with_reducible refine Chg.alloc ?_ _ | with_reducible apply Chg.drew | with_reducible apply Chg.drewN)); rintro e w' ⟨rfl, DD⟩)
        refine wpAny_take (i := 10) (v := ?_) rfl (by kernel_rfl) (by kernel_rfl) (by kernel_rfl) (fun _ _ _ h => h) (Or.inl ⟨by rfl, ?_⟩) ?_
        rotate_left
        · intro w; go_simp; try with_reducible rfl
        simp [Act.put]
        refine wpAny_ready (rs := [12]) (by kernel_rfl) (by simp) ?_
        refine AllReady.cons rfl (fun K hK => ?_) AllReady.nil
        go_simp
        go_wp2_with (go_at_call 10; refine (sC.out _ ?_).mono ?_; (repeat (first | exact Chg.refl _ _ | refine Chg.trans ?_ ((by assumption : Hid (Chg [] _ _)).out) | with_reducible refine Chg.alloc ?_ _ | with_reducible apply Chg.drew | with_reducible apply Chg.drewN)); rintro e w' ⟨rfl, DD⟩)
        refine wpAny_take (i := 13) (v := ?_) rfl (by kernel_rfl) (by kernel_rfl) (by kernel_rfl) (fun _ _ _ h => h) (Or.inl ⟨by rfl, ?_⟩) ?_
        rotate_left
        · intro w; go_simp; try with_reducible rfl
        simp [Act.put]
        refine wpAny_ready (rs := [16]) (by kernel_rfl) (by simp) ?_
        refine AllReady.cons rfl (fun K hK => ?_) AllReady.nil
        go_simp
        go_wp2_with (go_at_call 10; refine (sD.out _ _ ?_).mono ?_; (repeat (first | exact Chg.refl _ _ | refine Chg.trans ?_ ((by assumption : Hid (Chg [] _ _)).out) | with_reducible refine Chg.alloc ?_ _ | with_reducible apply Chg.drew | with_reducible apply Chg.drewN)); rintro e w' ⟨rfl, DD⟩)
        refine wpAny_take (i := 17) (v := ?_) rfl (by kernel_rfl) (by kernel_rfl) (by kernel_rfl) (fun _ _ _ h => h) (Or.inl ⟨by rfl, ?_⟩) ?_
        rotate_left
        · intro w; go_simp; try with_reducible rfl
        simp [Act.put]
        refine wpAny_take (i := 18) (v := ?_) rfl (by kernel_rfl) (by kernel_rfl) (by kernel_rfl) (fun _ _ _ h => h) (Or.inl ⟨by rfl, ?_⟩) ?_
        rotate_left
        · intro w; go_simp; try with_reducible rfl
        simp [Act.put]
        refine wpAny_take (i := 19) (v := ?_) rfl (by kernel_rfl) (by kernel_rfl) (by kernel_rfl) (fun _ _ _ h => h) (Or.inl ⟨by rfl, ?_⟩) ?_
        rotate_left
        · intro w; go_simp; try with_reducible rfl
        simp [Act.put]
        refine wpAny_take (i := 20) (v := ?_) rfl (by kernel_rfl) (by kernel_rfl) (by kernel_rfl) (fun _ _ _ h => h) (Or.inl ⟨by rfl, ?_⟩) ?_
        rotate_left
        · intro w; go_simp; try with_reducible rfl
        simp [Act.put]
        refine wpAny_done (by kernel_rfl) ?_ _
        go_wp2_with fail
        go_ret
        exact ⟨rfl, M.out.chg.trans (by repeat (first | exact Chg.refl _ _ | refine Chg.trans ?_ ((by assumption : Hid (Chg [] _ _)).out) | with_reducible refine Chg.alloc ?_ _ | with_reducible apply Chg.drew | with_reducible apply Chg.drewN))⟩
      refine AllReady.cons rfl (fun K hK => ?_) AllReady.nil
      go_simp
      refine hK _ _ ?_
      clear hK K
      refine wpAny_ready (rs := [5]) (by kernel_rfl) (by simp) ?_
      refine AllReady.cons rfl (fun K hK => ?_) AllReady.nil
      go_simp
      go_wp2_with (go_at_call 10; refine (sA.out _ ?_).mono ?_; (repeat (first | exact Chg.refl _ _ | refine Chg.trans ?_ ((by assumption : Hid (Chg [] _ _)).out) | with_reducible refine Chg.alloc ?_ _ | with_reducible apply Chg.drew | with_reducible apply Chg.drewN)); rintro e w' ⟨rfl, DD⟩)
      refine wpAny_ready (rs := [9]) (by kernel_rfl) (by simp) ?_
      refine AllReady.cons rfl (fun K hK => ?_) AllReady.nil
      go_simp
      go_wp2_with (go_at_call 10; refine (sB.out _ ?_).mono ?_; (repeat (first | exact Chg.refl _ _ | refine Chg.trans ?_ ((by assumption : Hid (Chg [] _ _)).out) | with_reducible refine Chg.alloc ?_ _ | with_reducible apply Chg.drew | with_reducible apply Chg.drewN)); rintro e w' ⟨rfl, DD⟩)
      refine wpAny_take (i := 10) (v := ?_) rfl (by kernel_rfl) (by kernel_rfl) (by kernel_rfl) (fun _ _ _ h => h) (Or.inl ⟨by rfl, ?_⟩) ?_
      rotate_left
      · intro w; go_simp; try with_reducible rfl
      simp [Act.put]
      refine wpAny_ready (rs := [12]) (by kernel_rfl) (by simp) ?_
      refine AllReady.cons rfl (fun K hK => ?_) AllReady.nil
      go_simp
      go_wp2_with (go_at_call 10; refine (sC.out _ ?_).mono ?_; (repeat (first | exact Chg.refl _ _ | refine Chg.trans ?_ ((by assumption : Hid (Chg [] _ _)).out) | with_reducible refine Chg.alloc ?_ _ | with_reducible apply Chg.drew | with_reducible apply Chg.drewN)); rintro e w' ⟨rfl, DD⟩)
      refine wpAny_take (i := 13) (v := ?_) rfl (by kernel_rfl) (by kernel_rfl) (by kernel_rfl) (fun _ _ _ h => h) (Or.inl ⟨by rfl, ?_⟩) ?_
      rotate_left
      · intro w; go_simp; try with_reducible rfl
      simp [Act.put]
      refine wpAny_ready (rs := [16]) (by kernel_rfl) (by simp) ?_
      refine AllReady.cons rfl (fun K hK => ?_) AllReady.nil
      go_simp
      go_wp2_with (go_at_call 10; refine (sD.out _ _ ?_).mono ?_; (repeat (first | exact Chg.refl _ _ | refine Chg.trans ?_ ((by assumption : Hid (Chg [] _ _)).out) | with_reducible refine Chg.alloc ?_ _ | with_reducible apply Chg.drew | with_reducible apply Chg.drewN)); rintro e w' ⟨rfl, DD⟩)
      refine wpAny_take (i := 17) (v := ?_) rfl (by kernel_rfl) (by kernel_rfl) (by kernel_rfl) (fun _ _ _ h => h) (Or.inl ⟨by rfl, ?_⟩) ?_
      rotate_left
      · intro w; go_simp; try with_reducible rfl
      simp [Act.put]
      refine wpAny_take (i := 18) (v := ?_) rfl (by kernel_rfl) (by kernel_rfl) (by kernel_rfl) (fun _ _ _ h => h) (Or.inl ⟨by rfl, ?_⟩) ?_
      rotate_left
      · intro w; go_simp; try with_reducible rfl
      simp [Act.put]
      refine wpAny_take (i := 19) (v := ?_) rfl (by kernel_rfl) (by kernel_rfl) (by kernel_rfl) (fun _ _ _ h => h) (Or.inl ⟨by rfl, ?_⟩) ?_
      rotate_left
      · intro w; go_simp; try with_reducible rfl
      simp [Act.put]
      refine wpAny_take (i := 20) (v := ?_) rfl (by kernel_rfl) (by kernel_rfl) (by kernel_rfl) (fun _ _ _ h => h) (Or.inl ⟨by rfl, ?_⟩) ?_
      rotate_left
      · intro w; go_simp; try with_reducible rfl
      simp [Act.put]
      refine wpAny_done (by kernel_rfl) ?_ _
      go_wp2_with fail
      go_ret
      exact ⟨rfl, M.out.chg.trans (by repeat (first | exact Chg.refl _ _ | refine Chg.trans ?_ ((by assumption : Hid (Chg [] _ _)).out) | with_reducible refine Chg.alloc ?_ _ | with_reducible apply Chg.drew | with_reducible apply Chg.drewN))⟩

set_option maxRecDepth 100000 in
theorem linear_long (ao bo : Option Addr) (c d n : Nat) (xs ys : List Int) (w : World) (hm : min (xs.length : Int) (ys.length : Int) = (n : Int)) (hn : 100000 < n) :
    Calls Try.prog 6 #[.slice ao xs.length c, .slice bo ys.length d] w fun e w' => e = .returned (.bool true) ∧ Chg [] w w' := by
  have hl : (100000 : Int) < n := by omega
  go_enter Try.func6, Try.ntmps6
  go_wp2_with fail
  go_ret
  exact ⟨rfl, Chg.refl _ _⟩

theorem linear_all (v u : Value) (xs ys : List Int) (w : World) (hx : Sl w v xs) (hy : Sl w u ys) (hc : ∀ ao n c, v = .slice ao n c → n ≤ c) (hd : ∀ ao n c, u = .slice ao n c → n ≤ c) (hbx : By xs) (hby : By ys) :
    Calls Try.prog 6 #[v, u] w fun e w' => e = .returned (.bool true) ∧ Chg [] w w' := by
  obtain ⟨ao, c, rfl⟩ := hx.slice
  obtain ⟨bo, d, rfl⟩ := hy.slice
  have hm : min (xs.length : Int) (ys.length : Int) = ((min xs.length ys.length : Nat) : Int) := by omega
  by_cases hn : min xs.length ys.length ≤ 100000
  · exact linear_walk ao bo c d _ xs ys w hx hy (hc _ _ _ rfl) (hd _ _ _ rfl) hbx hby hm hn
  · exact linear_long ao bo c d _ xs ys w hm (by omega)

end Go.Proofs.Ytaneaidipbhbkaa
