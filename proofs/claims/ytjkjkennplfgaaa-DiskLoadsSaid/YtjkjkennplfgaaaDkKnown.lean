/-
  'sector' and 'known' of the disks. By an AI agent.
-/
import Derived.Test.YtjkjkennplfgaaaDkCons
import Derived.Test.YtjkjkennplfgaaaGSameMore
namespace Go.Proofs.Ytjkjkennplfgaaa
open Go.RowKit

/-- 128 cells, the first k of which are marked. -/
def fillV (n : Int) (k : Nat) : List Value := (List.range 128).map fun j => .int .u8 (if j < k then n else 0)

theorem fillV_length (n : Int) (k : Nat) : (fillV n k).length = 128 := by simp [fillV]

theorem fillV_set (n : Int) {k : Nat} : (fillV n k).set k (.int .u8 n) = fillV n (k + 1) := by
  refine List.ext_getElem (by simp [fillV]) fun j h1 h2 => ?_
  have hj : j < 128 := by rw [fillV_length] at h2; exact h2
  rw [List.getElem_set]
  by_cases e : k = j
  · subst e
    simp [fillV]
  · rw [if_neg e]
    simp only [fillV, List.getElem_map, List.getElem_range]
    by_cases h : j < k
    · rw [if_pos h, if_pos (by omega)]
    · rw [if_neg h, if_neg (by omega)]

/-- A sector full of a byte. -/
def fullOf (n : Nat) : List Nat := List.replicate 128 n

theorem fullOf_length (n : Nat) : (fullOf n).length = 128 := by simp [fullOf]
theorem fullOf_bs {n : Nat} (h : n < 256) : Bs (fullOf n) := fun b hb => by rw [(List.mem_replicate.1 hb).2]; exact h

theorem fillV_all (n : Int) : fillV n 128 = List.replicate 128 (.int .u8 n) := List.eq_replicate_iff.2 ⟨fillV_length _ _, fun b hb => by
  obtain ⟨j, hj, rfl⟩ := List.mem_map.1 hb
  rw [if_pos (List.mem_range.1 hj)]⟩

theorem fillV_none (n : Int) : fillV n 0 = List.replicate 128 (.int .u8 0) := List.eq_replicate_iff.2 ⟨fillV_length _ _, fun b hb => by
  obtain ⟨j, hj, rfl⟩ := List.mem_map.1 hb
  rw [if_neg (by omega)]⟩

theorem fullOf_cells (n : Nat) : (ints (fullOf n)).map (Value.int .u8) = List.replicate 128 (.int .u8 (n : Int)) := by
  unfold ints fullOf
  rw [List.map_replicate, List.map_replicate]

theorem fillV_full (n : Nat) : fillV n 128 = (ints (fullOf n)).map (Value.int .u8) := by rw [fillV_all, fullOf_cells]

set_option maxHeartbeats 1000000 in
set_option maxRecDepth 100000 in
theorem sector_any (n : Nat) (w : World) (hn : n < 256) : Calls Try.prog 21 #[.int .u8 (n : Int)] w (Gives1 w (fullOf n)) := by
  obtain ⟨i0, hi, hz0, hz1, hz2⟩ := info_parts info_u8
  go_enter Try.func21, Try.ntmps21
  go_wp2_with (at_make; refine wpList_make_full _ rfl _ _ 22 rfl w.heap.size 5 i0 (.int .u8 0) 1 Try.underlying22 hi hz0 hz1 .i64 .i64 _ _ 128 rfl rfl rfl rfl (by rw [hz2]; omega) (by unfold maxLen; omega) (Nat.le_refl _) ?_; intro w1 hown hgrow)
  rw [made_replicate _ _ rfl] at hown
  have C0 : Hid (Chg [] w w1) := (Chg.refl _ w).grown hgrow (by intro k hk; cases hk)
  have O0 : Hid (w1.ownsRow w.heap.size 5 1 (.slice (some ⟨w.heap.size, 0, none⟩) 128 128) 128 (fillV n 0)) := by
    rw [fillV_none]
    exact hown
  clear hown hgrow
  go_loopw [4] (fun i wr => ∃ k : Nat, k ≤ 128 ∧ i = .int .i64 k ∧ Hid (wr.ownsRow w.heap.size 5 1 (.slice (some ⟨w.heap.size, 0, none⟩) 128 128) 128 (fillV n k)) ∧ Hid (Chg [] w wr)) (fun i _ => 128 - (intOf i).toNat)
  case atStart => exact ⟨0, Nat.zero_le _, rfl, O0, C0⟩
  case round =>
    obtain ⟨k, hk, rfl, O, C⟩ := hrel
    have hk0 : (0 : Int) ≤ k := Int.natCast_nonneg _
    by_cases hlt : k < 128
    · obtain ⟨h1, hf, u, hu⟩ := owns_set O.out hlt (.int .u8 (n : Int))
      rw [fillV_set] at h1
      have O2 := Lib.hid h1
      have hk1 : (k : Int) < 128 := by omega
      clear h1
      go_wp2_with fail
      exact ⟨⟨k + 1, by omega, by go_num, O2, C.out.setCell (.inr (Nat.le_refl _)) _⟩, by simp [intOf]; omega⟩
    · obtain rfl : k = 128 := by omega
      go_wp2_with fail
      go_ret
      exact ⟨_, rfl, by rw [fullOf_length, ← fillV_full]; exact O, C⟩

/-- What an owned row of bytes reads. -/
theorem ownT_sl {w : World} {t : TypeId} {u : Value} {xs : List Nat} (h : (ownT t u ((ints xs).map (Value.int .u8))).P w) : Sl w u (ints xs) := Sl.owned h

set_option maxHeartbeats 4000000 in
set_option maxRecDepth 100000 in
theorem dknown_any (w : World) : Calls Try.prog 13 #[] w fun e w' => e = .returned (.bool true) ∧ Hid (Chg [] w w') := by
  go_enter Try.func13, Try.ntmps13
  go_wp2_with fail
  refine (dnew_any 2 w (by decide)).mono ?_
  rintro e w1 (⟨h, _⟩ | ⟨_, g, F, rfl, D, N, C⟩)
  · exact absurd (by decide) h
  obtain ⟨d0, hd0⟩ : ∃ d, d = Dk.new 2 := ⟨_, rfl⟩
  have H : Hid (Side w w1 [DiskT g d0 F]) := by rw [hd0]; exact (Side.nil (Chg.refl _ _)).add C.out D.out N.out
  clear D N C
  go_wp2_with fail
  refine (sector_any 97 w1 (by decide)).mono ?_
  rintro e w2 ⟨u, rfl, O, C⟩
  replace H : Hid (Side w w2 [ownT 5 u ((ints (fullOf 97)).map (Value.int .u8)), DiskT g d0 F]) := H.out.own O.out C.out
  clear O C
  go_wp2_with fail
  obtain ⟨d1, hd1⟩ : ∃ d, d = d0.write 0 (fullOf 97) := ⟨_, rfl⟩
  have hc : d0.cache.length ≤ 1000000000 := by rw [hd0]; decide +kernel
  have T0 := dwrite_any g F d0 0 u _ w2 (H.out.get 1 rfl) (by decide) (ownT_sl (H.out.get 0 rfl)) (ints_by (fullOf_bs (by decide))) (by rw [ints_length, fullOf_length]; decide) hc
  rw [nats_ints, ← hd1] at T0
  refine (T0).mono ?_
  rintro e w3 ⟨rfl, T⟩
  obtain ⟨F1, H1⟩ := H.out.act 1 rfl T.out
  replace H : Hid (Side w w3 [ownT 5 u ((ints (fullOf 97)).map (Value.int .u8)), DiskT g d1 F1]) := H1
  clear H1 T
  replace H : Hid (Side w w3 [DiskT g d1 F1]) := H.out.tail
  clear T0 hc
  go_wp2_with fail
  refine (sector_any 98 w3 (by decide)).mono ?_
  rintro e w4 ⟨u, rfl, O, C⟩
  replace H : Hid (Side w w4 [ownT 5 u ((ints (fullOf 98)).map (Value.int .u8)), DiskT g d1 F1]) := H.out.own O.out C.out
  clear O C
  go_wp2_with fail
  obtain ⟨d2, hd2⟩ : ∃ d, d = d1.write 0 (fullOf 98) := ⟨_, rfl⟩
  have hc : d1.cache.length ≤ 1000000000 := by rw [hd1]; rw [hd0]; decide +kernel
  have T0 := dwrite_any g F1 d1 0 u _ w4 (H.out.get 1 rfl) (by decide) (ownT_sl (H.out.get 0 rfl)) (ints_by (fullOf_bs (by decide))) (by rw [ints_length, fullOf_length]; decide) hc
  rw [nats_ints, ← hd2] at T0
  refine (T0).mono ?_
  rintro e w5 ⟨rfl, T⟩
  obtain ⟨F2, H1⟩ := H.out.act 1 rfl T.out
  replace H : Hid (Side w w5 [ownT 5 u ((ints (fullOf 98)).map (Value.int .u8)), DiskT g d2 F2]) := H1
  clear H1 T
  replace H : Hid (Side w w5 [DiskT g d2 F2]) := H.out.tail
  clear T0 hc
  go_wp2_with fail
  refine (sector_any 99 w5 (by decide)).mono ?_
  rintro e w6 ⟨u, rfl, O, C⟩
  replace H : Hid (Side w w6 [ownT 5 u ((ints (fullOf 99)).map (Value.int .u8)), DiskT g d2 F2]) := H.out.own O.out C.out
  clear O C
  go_wp2_with fail
  obtain ⟨d3, hd3⟩ : ∃ d, d = d2.write 1 (fullOf 99) := ⟨_, rfl⟩
  have hc : d2.cache.length ≤ 1000000000 := by rw [hd2]; rw [hd1]; rw [hd0]; decide +kernel
  have T0 := dwrite_any g F2 d2 1 u _ w6 (H.out.get 1 rfl) (by decide) (ownT_sl (H.out.get 0 rfl)) (ints_by (fullOf_bs (by decide))) (by rw [ints_length, fullOf_length]; decide) hc
  rw [nats_ints, ← hd3] at T0
  refine (T0).mono ?_
  rintro e w7 ⟨rfl, T⟩
  obtain ⟨F3, H1⟩ := H.out.act 1 rfl T.out
  replace H : Hid (Side w w7 [ownT 5 u ((ints (fullOf 99)).map (Value.int .u8)), DiskT g d3 F3]) := H1
  clear H1 T
  replace H : Hid (Side w w7 [DiskT g d3 F3]) := H.out.tail
  clear T0 hc
  have r1 : d3.readVal 0 = fullOf 98 := by rw [hd3, hd2, hd1, hd0]; decide +kernel
  have r2 : d3.check 0 = 0 := by rw [hd3, hd2, hd1, hd0]; decide +kernel
  have r3 : d3.pending = [0, 0, 1] := by rw [hd3, hd2, hd1, hd0]; decide +kernel
  obtain ⟨d4, hd4⟩ : ∃ d, d = d3.crash [true, false, true] := ⟨_, rfl⟩
  have r4 : d4.readVal 0 = fullOf 97 := by rw [hd4, hd3, hd2, hd1, hd0]; decide +kernel
  have r5 : d4.check 0 = 0 := by rw [hd4, hd3, hd2, hd1, hd0]; decide +kernel
  have r6 : d4.readVal 1 = fullOf 99 := by rw [hd4, hd3, hd2, hd1, hd0]; decide +kernel
  have r7 : d4.check 1 = 0 := by rw [hd4, hd3, hd2, hd1, hd0]; decide +kernel
  have hc : d3.cache.length ≤ 1000000000 := by rw [hd3, hd2, hd1, hd0]; decide +kernel
  clear hd0 hd1 hd2 hd3
  go_wp2_with fail
  have T0 := dread_any g F3 d3 0 w7 (H.out.get 0 rfl) (by decide)
  rw [r1, r2] at T0
  refine (T0).mono ?_
  rintro e w8 ⟨tx, x, rfl, O, C⟩
  replace H : Hid (Side w w8 [ownT tx x ((ints (fullOf 98)).map (Value.int .u8)), DiskT g d3 F3]) := H.out.own O.out C.out
  clear O C
  clear T0 r1 r2
  go_wp2_with fail
  have T0 := dpending_any g F3 d3 w8 (H.out.get 1 rfl) hc
  rw [r3] at T0
  refine (T0).mono ?_
  rintro e w9 ⟨p, rfl, O, C⟩
  replace H : Hid (Side w w9 [ownT 3 p ((ints [0, 0, 1]).map (Value.int .i64)), ownT tx x ((ints (fullOf 98)).map (Value.int .u8)), DiskT g d3 F3]) := H.out.own O.out C.out
  clear O C
  clear T0 r3
  go_wp2_with fail
  have HF3 : Hid (∀ k ∈ F3, k < w9.heap.size) := (DiskT g d3 F3).lt w9 (H.out.get 2 rfl)
  replace H : Hid (Side w (w9.alloc (.cells #[.bool true, .bool false, .bool true] 4)) [ownT 3 p ((ints [0, 0, 1]).map (Value.int .i64)), ownT tx x ((ints (fullOf 98)).map (Value.int .u8)), DiskT g d3 F3]) := H.out.quiet ((Chg.refl [] _).alloc _)
  have K : RdV (w9.alloc (.cells #[.bool true, .bool false, .bool true] 4)) (.slice (some ⟨w9.heap.size, 0, none⟩) 3 3) ([true, false, true].map Value.bool) := .inr ⟨_, 0, 3, rfl, (Blk.made w9 _ _).lt, fun j u hj => by rw [Nat.zero_add]; exact (Blk.made w9 [.bool true, .bool false, .bool true] _).cell hj⟩
  have T0 := dcrash_any g F3 d3 _ _ _ (H.out.get 2 rfl) K (fun _ k hk => ⟨fun hm => by have h1 := HF3.out k hm; have h2 : w9.heap.size = k := Option.some.inj hk; omega, by have h2 : w9.heap.size = k := Option.some.inj hk; simp; omega⟩)
  rw [← hd4] at T0
  refine (T0).mono ?_
  rintro e w10 ⟨rfl, T⟩
  obtain ⟨F4, H1⟩ := H.out.act 2 rfl T.out
  replace H : Hid (Side w w10 [ownT 3 p ((ints [0, 0, 1]).map (Value.int .i64)), ownT tx x ((ints (fullOf 98)).map (Value.int .u8)), DiskT g d4 F4]) := H1
  clear H1 T
  clear T0 K hd4 hc
  go_wp2_with fail
  have T0 := dread_any g F4 d4 0 w10 (H.out.get 2 rfl) (by decide)
  rw [r4, r5] at T0
  refine (T0).mono ?_
  rintro e w11 ⟨ty, y, rfl, O, C⟩
  replace H : Hid (Side w w11 [ownT ty y ((ints (fullOf 97)).map (Value.int .u8)), ownT 3 p ((ints [0, 0, 1]).map (Value.int .i64)), ownT tx x ((ints (fullOf 98)).map (Value.int .u8)), DiskT g d4 F4]) := H.out.own O.out C.out
  clear O C
  clear T0 r4 r5
  go_wp2_with fail
  have T0 := dread_any g F4 d4 1 w11 (H.out.get 3 rfl) (by decide)
  rw [r6, r7] at T0
  refine (T0).mono ?_
  rintro e w12 ⟨tz, z, rfl, O, C⟩
  replace H : Hid (Side w w12 [ownT tz z ((ints (fullOf 99)).map (Value.int .u8)), ownT ty y ((ints (fullOf 97)).map (Value.int .u8)), ownT 3 p ((ints [0, 0, 1]).map (Value.int .i64)), ownT tx x ((ints (fullOf 98)).map (Value.int .u8)), DiskT g d4 F4]) := H.out.own O.out C.out
  clear O C
  clear T0 r6 r7
  go_wp2_with fail
  replace H : Hid (Side w (w12.alloc (.cells #[.int .i64 0, .int .i64 0, .int .i64 1] 3)) [ownT tz z ((ints (fullOf 99)).map (Value.int .u8)), ownT ty y ((ints (fullOf 97)).map (Value.int .u8)), ownT 3 p ((ints [0, 0, 1]).map (Value.int .i64)), ownT tx x ((ints (fullOf 98)).map (Value.int .u8)), DiskT g d4 F4]) := H.out.quiet ((Chg.refl [] _).alloc _)
  have K : RdV (w12.alloc (.cells #[.int .i64 0, .int .i64 0, .int .i64 1] 3)) (.slice (some ⟨w12.heap.size, 0, none⟩) 3 3) ((ints [0, 0, 1]).map (Value.int .i64)) := .inr ⟨_, 0, 3, rfl, (Blk.made w12 _ _).lt, fun j u hj => by rw [Nat.zero_add]; exact (Blk.made w12 [.int .i64 0, .int .i64 0, .int .i64 1] _).cell hj⟩
  refine (same_ints _ _ _ _ (RdV.owned (H.out.get 2 rfl)) K (by decide)).mono ?_
  rintro e w13 ⟨rfl, q, hw⟩
  replace H : Hid (Side w w13 [ownT tz z ((ints (fullOf 99)).map (Value.int .u8)), ownT ty y ((ints (fullOf 97)).map (Value.int .u8)), ownT 3 p ((ints [0, 0, 1]).map (Value.int .i64)), ownT tx x ((ints (fullOf 98)).map (Value.int .u8)), DiskT g d4 F4]) := H.out.quiet (by rw [hw]; exact (Chg.refl [] _).drewN _)
  clear hw
  clear K
  go_wp2_with fail
  refine (sector_any 98 w13 (by decide)).mono ?_
  rintro e w14 ⟨u, rfl, O, C⟩
  replace H : Hid (Side w w14 [ownT 5 u ((ints (fullOf 98)).map (Value.int .u8)), ownT tz z ((ints (fullOf 99)).map (Value.int .u8)), ownT ty y ((ints (fullOf 97)).map (Value.int .u8)), ownT 3 p ((ints [0, 0, 1]).map (Value.int .i64)), ownT tx x ((ints (fullOf 98)).map (Value.int .u8)), DiskT g d4 F4]) := H.out.own O.out C.out
  clear O C
  go_wp2_with fail
  refine (same_true _ _ (ints (fullOf 98)) _ (ownT_sl (H.out.get 4 rfl)) (ownT_sl (H.out.get 0 rfl)) (by rw [ints_length, fullOf_length]; decide)).mono ?_
  rintro e w15 ⟨rfl, q, hw⟩
  replace H : Hid (Side w w15 [ownT 5 u ((ints (fullOf 98)).map (Value.int .u8)), ownT tz z ((ints (fullOf 99)).map (Value.int .u8)), ownT ty y ((ints (fullOf 97)).map (Value.int .u8)), ownT 3 p ((ints [0, 0, 1]).map (Value.int .i64)), ownT tx x ((ints (fullOf 98)).map (Value.int .u8)), DiskT g d4 F4]) := H.out.quiet (by rw [hw]; exact (Chg.refl [] _).drewN _)
  clear hw
  replace H : Hid (Side w w15 [ownT tz z ((ints (fullOf 99)).map (Value.int .u8)), ownT ty y ((ints (fullOf 97)).map (Value.int .u8)), ownT 3 p ((ints [0, 0, 1]).map (Value.int .i64)), ownT tx x ((ints (fullOf 98)).map (Value.int .u8)), DiskT g d4 F4]) := H.out.tail
  go_wp2_with fail
  refine (sector_any 97 w15 (by decide)).mono ?_
  rintro e w16 ⟨u, rfl, O, C⟩
  replace H : Hid (Side w w16 [ownT 5 u ((ints (fullOf 97)).map (Value.int .u8)), ownT tz z ((ints (fullOf 99)).map (Value.int .u8)), ownT ty y ((ints (fullOf 97)).map (Value.int .u8)), ownT 3 p ((ints [0, 0, 1]).map (Value.int .i64)), ownT tx x ((ints (fullOf 98)).map (Value.int .u8)), DiskT g d4 F4]) := H.out.own O.out C.out
  clear O C
  go_wp2_with fail
  refine (same_true _ _ (ints (fullOf 97)) _ (ownT_sl (H.out.get 2 rfl)) (ownT_sl (H.out.get 0 rfl)) (by rw [ints_length, fullOf_length]; decide)).mono ?_
  rintro e w17 ⟨rfl, q, hw⟩
  replace H : Hid (Side w w17 [ownT 5 u ((ints (fullOf 97)).map (Value.int .u8)), ownT tz z ((ints (fullOf 99)).map (Value.int .u8)), ownT ty y ((ints (fullOf 97)).map (Value.int .u8)), ownT 3 p ((ints [0, 0, 1]).map (Value.int .i64)), ownT tx x ((ints (fullOf 98)).map (Value.int .u8)), DiskT g d4 F4]) := H.out.quiet (by rw [hw]; exact (Chg.refl [] _).drewN _)
  clear hw
  replace H : Hid (Side w w17 [ownT tz z ((ints (fullOf 99)).map (Value.int .u8)), ownT ty y ((ints (fullOf 97)).map (Value.int .u8)), ownT 3 p ((ints [0, 0, 1]).map (Value.int .i64)), ownT tx x ((ints (fullOf 98)).map (Value.int .u8)), DiskT g d4 F4]) := H.out.tail
  go_wp2_with fail
  refine (sector_any 99 w17 (by decide)).mono ?_
  rintro e w18 ⟨u, rfl, O, C⟩
  replace H : Hid (Side w w18 [ownT 5 u ((ints (fullOf 99)).map (Value.int .u8)), ownT tz z ((ints (fullOf 99)).map (Value.int .u8)), ownT ty y ((ints (fullOf 97)).map (Value.int .u8)), ownT 3 p ((ints [0, 0, 1]).map (Value.int .i64)), ownT tx x ((ints (fullOf 98)).map (Value.int .u8)), DiskT g d4 F4]) := H.out.own O.out C.out
  clear O C
  go_wp2_with fail
  refine (same_true _ _ (ints (fullOf 99)) _ (ownT_sl (H.out.get 1 rfl)) (ownT_sl (H.out.get 0 rfl)) (by rw [ints_length, fullOf_length]; decide)).mono ?_
  rintro e w19 ⟨rfl, q, hw⟩
  replace H : Hid (Side w w19 [ownT 5 u ((ints (fullOf 99)).map (Value.int .u8)), ownT tz z ((ints (fullOf 99)).map (Value.int .u8)), ownT ty y ((ints (fullOf 97)).map (Value.int .u8)), ownT 3 p ((ints [0, 0, 1]).map (Value.int .i64)), ownT tx x ((ints (fullOf 98)).map (Value.int .u8)), DiskT g d4 F4]) := H.out.quiet (by rw [hw]; exact (Chg.refl [] _).drewN _)
  clear hw
  replace H : Hid (Side w w19 [ownT tz z ((ints (fullOf 99)).map (Value.int .u8)), ownT ty y ((ints (fullOf 97)).map (Value.int .u8)), ownT 3 p ((ints [0, 0, 1]).map (Value.int .i64)), ownT tx x ((ints (fullOf 98)).map (Value.int .u8)), DiskT g d4 F4]) := H.out.tail
  go_wp2_with fail
  go_ret
  exact ⟨rfl, H.out.chg⟩

end Go.Proofs.Ytjkjkennplfgaaa
