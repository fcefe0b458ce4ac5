/-
  GeomOwn, walked. By an AI agent.
-/
import Derived.Test.YtheplbjlfkjncaaGmFair
import Derived.Test.YtheplbjlfkjncaaGInShorts
import Derived.Test.YtheplbjlfkjncaaGBookOwnInts
import Derived.Deep.RegionHeld3
import Derived.Deep.CutBlock
import Derived.Deep.DeepCutAuto
namespace Go.Proofs.Ytheplbjlfkjncaa
open Go.RowKit

set_option maxHeartbeats 4000000 in
set_option maxRecDepth 100000 in
theorem geomOwn_walk (a0 : Int) (ao : Option Addr) (cap : Nat) (zs : List Int) (w : World) (r0 : 0 ≤ a0 ∧ a0 ≤ 255) (hs : RdV w (.slice ao zs.length cap) (zs.map (Value.int .u16))) (hz : Shorts zs) (_hbig : zs.length ≤ 140737488355328) :
    Calls Try.prog 5 #[.int .u8 a0, .slice ao zs.length cap] w fun e w' => e = .returned (.bool true) ∧ Chg [] w w' := by
  obtain ⟨m, rfl, hm⟩ := byteNat a0 r0
  clear r0
  obtain ⟨x14, hx14⟩ : ∃ x, x = m % 14 := ⟨_, rfl⟩
  obtain ⟨n, hn⟩ : ∃ n, n = x14 + 3 := ⟨_, rfl⟩
  obtain ⟨g, hge⟩ : ∃ g : Gm, g = ⟨n, 3, 50⟩ := ⟨_, rfl⟩
  have hg : g.Ok := by rw [hge]; exact ⟨⟨by simp only; omega, by simp only; omega⟩, ⟨by simp only; omega, by simp only; omega⟩, ⟨by simp only; omega, by simp only; omega⟩⟩
  have gn : g.n = n := by rw [hge]
  have gk : g.k = 3 := by rw [hge]
  have gs : g.s = 50 := by rw [hge]
  have gr : g.rows = 150 := by unfold Gm.rows; rw [gk, gs]
  have KN : Hid (∀ w', Calls Try.prog 23 #[] w' (Says w' (.bool true))) := known_any
  -- a round's list
  have RD : Hid (∀ j, j < zs.length → ∃ (z r : Nat) (l : List Nat), zs[j]? = some (z : Int) ∧ z ≤ 65535 ∧ r = z % 150 ∧ l.length = n - 1 ∧
      (∀ w', Calls Try.prog 11 #[.agg #[.int .i64 (n : Int), .int .i64 3, .int .i64 50], .int .i64 (r : Int)] w' (SaysList w' l (.int .u16 0)))) := fun j hj => by
    have hb := hz zs[j] (List.getElem_mem _)
    have hq : zs[j].toNat % 150 < g.rows := by rw [gr]; exact Nat.mod_lt _ (by decide)
    refine ⟨zs[j].toNat, zs[j].toNat % 150, g.list (g.par (zs[j].toNat % 150 / g.k)), ?_, by omega, rfl, by rw [Gm.list_len, gn], fun w' => ?_⟩
    · rw [List.getElem?_eq_getElem hj]
      congr 1
      omega
    · have h := gmembers_in g hg w' _ hq
      rw [gn, gs] at h
      rw [gk] at h ⊢
      exact h
  have hnn : 3 ≤ n ∧ n ≤ 16 := by omega
  have x1 : (x14 : Int) + 3 = (n : Int) := by omega
  have w_m := Lib.hid (wrap_small (x := m) (by omega))
  have w_x := Lib.hid (wrap_small (x := x14) (by omega))
  have w_n := Lib.hid (wrap_small (x := n) (by omega))
  have y1 : Int.tmod (m : Int) 14 = (x14 : Int) := by rw [hx14]; rfl
  have y1' : (m : Int) % 14 = (x14 : Int) := by rw [hx14]; rfl
  obtain ⟨D, hD⟩ : ∃ D, D = n - 1 := ⟨_, rfl⟩
  rw [← hD] at RD
  have hDl : Hid (D ≤ 16) := by show _ ≤ _; omega
  have HR := Lib.hid hs
  have H0 : Hid (Side w ((w.alloc (.cells #[.int .i64 (n : Int), .int .i64 3, .int .i64 50] 23)).alloc (.cells #[.slice none 0 0, .slice none 0 0, .slice none 0 0, .slice none 0 0, .slice none 0 0, .slice none 0 0, .slice none 0 0, .slice none 0 0, .slice none 0 0, .slice none 0 0, .slice none 0 0, .slice none 0 0] 66))
      [rackT 3 33 (.slice none 0 0) [], blkT (w.heap.size + 1) 66 (bookCells (.slice none 0 0) (.slice none 0 0)), blkT w.heap.size 23 [.int .i64 (n : Int), .int .i64 3, .int .i64 50], rackT 5 94 (.slice none 0 0) []]) := by
    have h := (((Side.nil (Chg.refl [] w)).add (b := rackT 5 94 (.slice none 0 0) []) (Chg.refl _ _) (Rack.nil _ _ _) (fun k hk => by simp [rackT, rowsOf, Value.ownBlock] at hk)).box [.int .i64 (n : Int), .int .i64 3, .int .i64 50] 23).box (bookCells (.slice none 0 0) (.slice none 0 0)) 66
    have s1 : (w.alloc (.cells #[.int .i64 (n : Int), .int .i64 3, .int .i64 50] 23)).heap.size = w.heap.size + 1 := by simp
    rw [s1] at h
    exact h.add (b := rackT 3 33 (.slice none 0 0) []) (Chg.refl _ _) (Rack.nil _ _ _) (fun k hk => by simp [rackT, rowsOf, Value.ownBlock] at hk)
  clear hm hx14 hn hge hg gn gk gs gr hs hz hnn hD
  obtain ⟨u1, v1⟩ := w_m.out
  obtain ⟨u2, v2⟩ := w_x.out
  obtain ⟨u3, v3⟩ := w_n.out
  go_enter Try.func5, Try.ntmps5
  go_wp2_with fail
  obtain ⟨BB, hBB⟩ : ∃ B, B = w.heap.size + 1 := ⟨_, rfl⟩
  rw [← hBB] at H0 ⊢
  clear hBB x1 y1 y1' u1 v1 u2 v2 u3 v3 w_m w_x w_n
  generalize ((w.alloc (.cells #[.int .i64 (n : Int), .int .i64 3, .int .i64 50] 23)).alloc (.cells #[.slice none 0 0, .slice none 0 0, .slice none 0 0, .slice none 0 0, .slice none 0 0, .slice none 0 0, .slice none 0 0, .slice none 0 0, .slice none 0 0, .slice none 0 0, .slice none 0 0, .slice none 0 0] 66)) = W at *
  go_loopw [7] (fun i wr => ∃ (j : Nat) (lv : Value) (us : List (Value × List Value)), j ≤ zs.length ∧ j ≤ 100 ∧ i = .int .i64 (j : Int) ∧ Hid (us.length = j) ∧ Hid (∀ p ∈ us, p.2.length ≤ 16) ∧ Hid (Side w wr [rackT 3 33 lv us, blkT BB 66 (bookCells (.slice none 0 0) lv), blkT w.heap.size 23 [.int .i64 (n : Int), .int .i64 3, .int .i64 50], rackT 5 94 (.slice none 0 0) []])) (fun i _ => 100 - (intOf i).toNat)
  case atStart => exact ⟨0, _, [], Nat.zero_le _, Nat.zero_le _, rfl, rfl, (fun p hp => by cases hp), H0⟩
  case round =>
    obtain ⟨j, lv, us, hj, hj100, rfl, hu, hus, H⟩ := hrel
    clear H0
    have hj0 : (0 : Int) ≤ j := Int.natCast_nonneg _
    by_cases hlt : j < zs.length
    · have hj1 : (j : Int) < zs.length := by omega
      have hd1 : decide ((j : Int) < (zs.length : Int)) = true := decide_eq_true hj1
      have hd2 : decide (j < zs.length) = true := decide_eq_true hlt
      by_cases h100 : j < 100
      · have hj2 : (j : Int) < 100 := by omega
        have hd3 : decide ((j : Int) < 100) = true := decide_eq_true hj2
        have hd4 : decide (j < 100) = true := decide_eq_true h100
        obtain ⟨z, r, l, hzj, hz16, hr, hl, MC⟩ := RD.out j hlt
        have hrl : r ≤ 1000000 := by omega
        obtain ⟨j1, hj1e⟩ : ∃ j1, j1 = j + 1 := ⟨_, rfl⟩
        have xj : (j : Int) + 1 = (j1 : Int) := by omega
        have hM : Hid (j1 ≤ zs.length ∧ j1 ≤ 100 ∧ 100 - j1 < 100 - j) := by show _ ∧ _ ∧ _; omega
        have hl16 : Hid (l.length ≤ 16) := by have := hDl.out; show _ ≤ _; omega
        have y1 : Int.tmod (z : Int) 150 = (r : Int) := by rw [hr]; rfl
        have y2 : (z : Int) % 150 = (r : Int) := by rw [hr]; rfl
        have hx : (zs.map (Value.int .u16))[j]? = some (.int .u16 (z : Int)) := by rw [List.getElem?_map, hzj]; rfl
        obtain ⟨gb, go, rfl, c1⟩ := HR.out.at hx
        have w_r := Lib.hid (wrap_small hrl)
        have w_z := Lib.hid (wrap_small (x := z) (by omega))
        have w_j := Lib.hid (wrap_small (x := j1) (by omega))
        replace MC := Lib.hid MC
        have LC : Hid (∀ w', Chg [] w w' → w'.cell? ⟨gb, go + j, none⟩ = some (.int .u16 (z : Int))) := fun w' C => (C.cell (p := ⟨gb, go + j, none⟩) (World.block_lt_of_cell? w _ c1) (by simp)).trans c1
        replace hl := Lib.hid hl
        clear hzj hz16 hr hrl hx c1 hlt h100 hj hj100
        have l0 := LC.out _ H.out.chg
        have e0 := (H.out.get 2 rfl : Blk _ _ _ _).cell (j := 0) rfl
        have e1 := (H.out.get 2 rfl : Blk _ _ _ _).cell (j := 1) rfl
        have e2 := (H.out.get 2 rfl : Blk _ _ _ _).cell (j := 2) rfl
        have KA : Hid (∀ w', Chg [] wr w' → (w'.cell? ⟨w.heap.size, 0, none⟩ = some (.int .i64 (n : Int)) ∧ w'.cell? ⟨w.heap.size, 1, none⟩ = some (.int .i64 3) ∧ w'.cell? ⟨w.heap.size, 2, none⟩ = some (.int .i64 50)) ∧ w'.cell? ⟨gb, go + j, none⟩ = some (.int .u16 (z : Int))) := fun w' C => by
          have h := H.out.quiet C
          have q : Blk w' w.heap.size 23 [.int .i64 (n : Int), .int .i64 3, .int .i64 50] := h.get 2 rfl
          exact ⟨⟨q.cell (j := 0) rfl, q.cell (j := 1) rfl, q.cell (j := 2) rfl⟩, LC.out _ h.chg⟩
        obtain ⟨u1, v1⟩ := w_r.out
        obtain ⟨u2, v2⟩ := w_z.out
        go_upto_region 6 with fail
        have C1 : Hid (Chg [] wr (wr.drewN 1)) := (Chg.refl _ _).drewN 1
        go_region_held3 (fun w' : World => (w'.cell? ⟨w.heap.size, 0, none⟩ = some (.int .i64 (n : Int)) ∧ w'.cell? ⟨w.heap.size, 1, none⟩ = some (.int .i64 3) ∧ w'.cell? ⟨w.heap.size, 2, none⟩ = some (.int .i64 50)) ∧ w'.cell? ⟨gb, go + j, none⟩ = some (.int .u16 (z : Int))) (first | exact ⟨⟨e0, e1, e2⟩, l0⟩ | exact KA.out _ C1.out) (first
          | (go_at_call 11; refine (MC.out _).mono ?_; rintro e w2 ⟨u, rfl, O, C⟩; replace C := Lib.hid C.out; have O2 := Lib.hid O.out; clear O; have CQ := Lib.hid (C1.out.trans C.out); have C1 := CQ; obtain ⟨lo, lc, rfl⟩ := owns_slice O2.out))
        have H2 := Lib.hid ((H.out.quiet ((Chg.refl _ _).drewN 1)).own O2.out C.out)
        clear H C O2 C1 CQ e0 e1 e2 l0 KA LC u1 v1 u2 v2 y1 y2
        have hul : Hid (us.length ≤ 1000000) := by have := hu.out; have := hM.out; show _ ≤ _; omega
        go_wp2_with fail
        refine (bookInts_side H2.out rfl hul.out).mono ?_
        rintro e w3 ⟨rfl, lv2, H3⟩
        have HU : Hid ((us ++ [(Value.slice lo l.length lc, (ints l).map (Value.int .i64))]).length = j1) := by have := hu.out; show _ = _; rw [List.length_append, this, hj1e]; rfl
        have HV : Hid (∀ p ∈ us ++ [(Value.slice lo l.length lc, (ints l).map (Value.int .i64))], p.2.length ≤ 16) := fun p hp => by
          rcases List.mem_append.1 hp with hp | hp
          · exact hus.out p hp
          · rw [List.mem_singleton.1 hp]
            show ((ints l).map (Value.int .i64)).length ≤ 16
            rw [List.length_map, ints_length]
            exact hl16.out
        have H4 : Hid (Side w w3 [rackT 3 33 lv2 (us ++ [(Value.slice lo l.length lc, (ints l).map (Value.int .i64))]), blkT BB 66 (bookCells (.slice none 0 0) lv2), blkT w.heap.size 23 [.int .i64 (n : Int), .int .i64 3, .int .i64 50], rackT 5 94 (.slice none 0 0) []]) := H3.out
        clear H2 H3 hu hus hj1e hl hl16
        obtain ⟨u1, v1⟩ := w_j.out
        go_wp2_with fail
        exact ⟨⟨j1, lv2, _, hM.out.1, hM.out.2.1, rfl, HU, HV, H4⟩, hM.out.2.2⟩
      · have hj2 : ¬ (j : Int) < 100 := by omega
        have hd3 : decide ((j : Int) < 100) = false := decide_eq_false hj2
        have hd4 : decide (j < 100) = false := decide_eq_false h100
        go_wp2_with fail
        refine (KN.out _).mono ?_
        rintro e w4 ⟨rfl, C⟩
        have H5 := Lib.hid ((H.out.quiet C.out).front 3)
        clear C H
        go_wp2_with fail
        refine (bookOwn_side (l0 := .slice none 0 0) (l2 := lv) (vs := []) (us := us) H5.out (by simp) (by rw [hu.out]; omega) (fun p hp => by cases hp) (fun p hp => by have := hus.out p hp; omega)).mono ?_
        rintro e w6 ⟨rfl, CF⟩
        go_wp2_with fail
        go_ret
        exact ⟨rfl, CF.out⟩
    · have hj1 : ¬ (j : Int) < zs.length := by omega
      have hd1 : decide ((j : Int) < (zs.length : Int)) = false := decide_eq_false hj1
      have hd2 : decide (j < zs.length) = false := decide_eq_false hlt
      go_wp2_with fail
      refine (KN.out _).mono ?_
      rintro e w4 ⟨rfl, C⟩
      have H5 := Lib.hid ((H.out.quiet C.out).front 3)
      clear C H
      go_wp2_with fail
      refine (bookOwn_side (l0 := .slice none 0 0) (l2 := lv) (vs := []) (us := us) H5.out (by simp) (by rw [hu.out]; omega) (fun p hp => by cases hp) (fun p hp => by have := hus.out p hp; omega)).mono ?_
      rintro e w6 ⟨rfl, CF⟩
      go_wp2_with fail
      go_ret
      exact ⟨rfl, CF.out⟩

theorem geomOwn_any (a0 : Int) (v : Value) (zs : List Int) (w : World) (r0 : 0 ≤ a0 ∧ a0 ≤ 255) (hs : RdV w v (zs.map (Value.int .u16))) (hz : Shorts zs) (hbig : zs.length ≤ 140737488355328) :
    Calls Try.prog 5 #[.int .u8 a0, v] w fun e w' => e = .returned (.bool true) ∧ Chg [] w w' := by
  obtain ⟨ao, c, rfl⟩ := hs.slice
  rw [List.length_map] at hs ⊢
  exact geomOwn_walk a0 ao c zs w r0 hs hz hbig

end Go.Proofs.Ytheplbjlfkjncaa
