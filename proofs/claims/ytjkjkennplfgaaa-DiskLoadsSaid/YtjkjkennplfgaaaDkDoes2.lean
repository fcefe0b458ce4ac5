/-
  'does' of the disks' law, the other kinds. By an AI agent.
-/
import Derived.Test.YtjkjkennplfgaaaDkDoes
namespace Go.Proofs.Ytjkjkennplfgaaa
open Go.RowKit

set_option maxHeartbeats 4000000 in
set_option maxRecDepth 100000 in
theorem does3 (g r b pb : Nat) (d : Dk) (F G : List Nat) (l0 l2 : Value) (vs us : List (Value × List Value)) (kd at_ : Int) (dv kv : Value) (w0 w : World)
    (h : Side w0 w (pairThings g r b pb d F G l0 l2 vs us)) (hk : Int.tmod kd 9 = 3) (ha : -9223372036854775808 ≤ at_ ∧ at_ ≤ 9223372036854775807) (hc : d.cache.length ≤ 1000000000) (hvl : vs.length ≤ 1000000) (hul : us.length ≤ 1000000) :
    Calls Try.prog 18 #[.pointer (some ⟨pb, 0, none⟩), .agg #[.int .u8 kd, .int .i64 at_, dv, kv]] w (Did w0 g r b pb d vs us) := by
  have H := Lib.hid h
  have FIT : Hid d.Fit := (h.get 1 rfl : RdIn _ _ _ _).fit
  clear h
  have H1 : Hid (Side w0 _ (blkT w.heap.size 59 [.int .u8 kd, .int .i64 at_, dv, kv] :: pairThings g r b pb d F G l0 l2 vs us)) := H.out.add ((Chg.refl _ _).alloc (.cells #[.int .u8 kd, .int .i64 at_, dv, kv] 59)) (Blk.made w [_, _, _, _] _) (fun k hk => by rw [List.mem_singleton.1 hk]; exact Nat.le_refl _)
  obtain ⟨wA, hwA⟩ : ∃ wA, wA = w.alloc (.cells #[.int .u8 kd, .int .i64 at_, dv, kv] 59) := ⟨_, rfl⟩
  obtain ⟨bx, hbx⟩ : ∃ bx, bx = w.heap.size := ⟨_, rfl⟩
  rw [← hwA, ← hbx] at H1
  replace hwA := Lib.hid hwA
  replace hbx := Lib.hid hbx
  clear H
  have H : Hid (Side w0 wA [blkT bx 59 [.int .u8 kd, .int .i64 at_, dv, kv], DiskT g d F, RefT r d G, rackT 5 22 l0 vs, rackT 3 69 l2 us, blkT b 53 (bookCells l0 l2), blkT pb 55 (pairCells g r b)]) := H1
  clear H1
  have e0 : wA.cell? ⟨pb, 0, none⟩ = some (.pointer (some ⟨g, 0, none⟩)) := (H.out.get 6 rfl : Blk _ _ _ _).cell (j := 0) rfl
  rw [hwA.out] at e0
  go_enter Try.func18, Try.ntmps18
  go_wp2_with fail
  rw [← hwA.out]
  clear e0
  have T0 := dflush_any g F d wA (H.out.get 1 rfl)
  refine (T0).mono ?_
  rintro e w1 ⟨rfl, T⟩
  obtain ⟨F1, H1⟩ := H.out.act 1 rfl T.out
  replace H : Hid (Side w0 w1 [blkT bx 59 [.int .u8 kd, .int .i64 at_, dv, kv], DiskT g d.flush F1, RefT r d G, rackT 5 22 l0 vs, rackT 3 69 l2 us, blkT b 53 (bookCells l0 l2), blkT pb 55 (pairCells g r b)]) := H1
  clear H1 T
  clear T0
  have e1 : w1.cell? ⟨pb, 1, none⟩ = some (.pointer (some ⟨r, 0, none⟩)) := (H.out.get 6 rfl : Blk _ _ _ _).cell (j := 1) rfl
  go_wp2_with fail
  clear e1
  have T0 := rflush_any r G d w1 (H.out.get 2 rfl) hc
  refine (T0).mono ?_
  rintro e w2 ⟨rfl, T⟩
  obtain ⟨G1, H1⟩ := H.out.act 2 rfl T.out
  replace H : Hid (Side w0 w2 [blkT bx 59 [.int .u8 kd, .int .i64 at_, dv, kv], DiskT g d.flush F1, RefT r d.flush G1, rackT 5 22 l0 vs, rackT 3 69 l2 us, blkT b 53 (bookCells l0 l2), blkT pb 55 (pairCells g r b)]) := H1
  clear H1 T
  clear T0
  have hfe : (d.flushErr : Int) = 0 ∨ (d.flushErr : Int) = 2 := by unfold Dk.flushErr; split; exact .inr rfl; exact .inl rfl
  rcases hfe with hfe | hfe
  all_goals rw [hfe]
  all_goals go_wp2_with fail
  all_goals go_ret
  all_goals replace H : Hid (Side w0 w2 [DiskT g d.flush F1, RefT r d.flush G1, rackT 5 22 l0 vs, rackT 3 69 l2 us, blkT b 53 (bookCells l0 l2), blkT pb 55 (pairCells g r b)]) := ((((((((H.out).front 0).tail).front 5).front 5).front 5).front 5).front 5).front 5
  all_goals exact Did.same H (Dk.flush_len d).1 (Dk.flush_len d).2

set_option maxHeartbeats 4000000 in
set_option maxRecDepth 100000 in
theorem does6 (g r b pb : Nat) (d : Dk) (F G : List Nat) (l0 l2 : Value) (vs us : List (Value × List Value)) (kd at_ : Int) (dv kv : Value) (w0 w : World)
    (h : Side w0 w (pairThings g r b pb d F G l0 l2 vs us)) (hk : Int.tmod kd 9 = 6) (ha : -9223372036854775808 ≤ at_ ∧ at_ ≤ 9223372036854775807) (hc : d.cache.length ≤ 1000000000) (hvl : vs.length ≤ 1000000) (hul : us.length ≤ 1000000) :
    Calls Try.prog 18 #[.pointer (some ⟨pb, 0, none⟩), .agg #[.int .u8 kd, .int .i64 at_, dv, kv]] w (Did w0 g r b pb d vs us) := by
  have H := Lib.hid h
  have FIT : Hid d.Fit := (h.get 1 rfl : RdIn _ _ _ _).fit
  clear h
  have H1 : Hid (Side w0 _ (blkT w.heap.size 59 [.int .u8 kd, .int .i64 at_, dv, kv] :: pairThings g r b pb d F G l0 l2 vs us)) := H.out.add ((Chg.refl _ _).alloc (.cells #[.int .u8 kd, .int .i64 at_, dv, kv] 59)) (Blk.made w [_, _, _, _] _) (fun k hk => by rw [List.mem_singleton.1 hk]; exact Nat.le_refl _)
  obtain ⟨wA, hwA⟩ : ∃ wA, wA = w.alloc (.cells #[.int .u8 kd, .int .i64 at_, dv, kv] 59) := ⟨_, rfl⟩
  obtain ⟨bx, hbx⟩ : ∃ bx, bx = w.heap.size := ⟨_, rfl⟩
  rw [← hwA, ← hbx] at H1
  replace hwA := Lib.hid hwA
  replace hbx := Lib.hid hbx
  clear H
  have H : Hid (Side w0 wA [blkT bx 59 [.int .u8 kd, .int .i64 at_, dv, kv], DiskT g d F, RefT r d G, rackT 5 22 l0 vs, rackT 3 69 l2 us, blkT b 53 (bookCells l0 l2), blkT pb 55 (pairCells g r b)]) := H1
  clear H1
  have e0 : wA.cell? ⟨pb, 0, none⟩ = some (.pointer (some ⟨g, 0, none⟩)) := (H.out.get 6 rfl : Blk _ _ _ _).cell (j := 0) rfl
  rw [hwA.out] at e0
  go_enter Try.func18, Try.ntmps18
  go_wp2_with fail
  rw [← hwA.out]
  clear e0
  have T0 := dimage_any g F d wA (H.out.get 1 rfl)
  have hil : d.image.length ≤ 1048576 := by unfold Dk.image; split; simp; rw [FIT.out.flat]; have := FIT.out.hi; omega
  obtain ⟨im, him⟩ : ∃ im, im = d.image := ⟨_, rfl⟩
  rw [← him] at T0 hil
  refine (T0).mono ?_
  rintro e w1 ⟨x, rfl, O, C⟩
  replace H : Hid (Side w0 w1 [ownT 5 x ((ints im).map (Value.int .u8)), blkT bx 59 [.int .u8 kd, .int .i64 at_, dv, kv], DiskT g d F, RefT r d G, rackT 5 22 l0 vs, rackT 3 69 l2 us, blkT b 53 (bookCells l0 l2), blkT pb 55 (pairCells g r b)]) := H.out.own O.out C.out
  clear O C
  clear T0
  have e2 : w1.cell? ⟨pb, 2, none⟩ = some (.pointer (some ⟨b, 0, none⟩)) := (H.out.get 7 rfl : Blk _ _ _ _).cell (j := 2) rfl
  go_wp2_with fail
  clear e2
  replace H : Hid (Side w0 w1 [ownT 5 x ((ints im).map (Value.int .u8)), rackT 5 22 l0 vs, blkT b 53 (bookCells l0 l2), blkT bx 59 [.int .u8 kd, .int .i64 at_, dv, kv], DiskT g d F, RefT r d G, rackT 3 69 l2 us, blkT pb 55 (pairCells g r b)]) := ((((((((H.out).front 7).front 6).front 5).front 5).front 5).front 7).front 7).front 7
  refine (bookBytes_side H.out rfl hvl).mono ?_
  rintro e w2 ⟨rfl, l0', HB⟩
  clear H
  have H : Hid (Side w0 w2 [rackT 5 22 l0' (vs ++ [(x, (ints im).map (Value.int .u8))]), blkT b 53 (bookCells l0' l2), blkT bx 59 [.int .u8 kd, .int .i64 at_, dv, kv], DiskT g d F, RefT r d G, rackT 3 69 l2 us, blkT pb 55 (pairCells g r b)]) := HB
  clear HB
  have e1 : w2.cell? ⟨pb, 1, none⟩ = some (.pointer (some ⟨r, 0, none⟩)) := (H.out.get 6 rfl : Blk _ _ _ _).cell (j := 1) rfl
  go_wp2_with fail
  clear e1
  have T0 := rimage_any r G d w2 (H.out.get 4 rfl)
  rw [← him] at T0
  refine (T0).mono ?_
  rintro e w3 ⟨y, rfl, O, C⟩
  replace H : Hid (Side w0 w3 [ownT 5 y ((ints im).map (Value.int .u8)), rackT 5 22 l0' (vs ++ [(x, (ints im).map (Value.int .u8))]), blkT b 53 (bookCells l0' l2), blkT bx 59 [.int .u8 kd, .int .i64 at_, dv, kv], DiskT g d F, RefT r d G, rackT 3 69 l2 us, blkT pb 55 (pairCells g r b)]) := H.out.own O.out C.out
  clear O C
  clear T0
  have SX : Hid (Sl w3 x (ints im)) := by have hr : Rack _ _ _ _ _ := H.out.get 1 rfl; exact OwnR.sl (hr.row vs.length _ _ (by simp))
  go_wp2_with fail
  refine (same_true _ _ (ints im) _ SX.out (ownT_sl (H.out.get 0 rfl)) (by rw [ints_length]; omega)).mono ?_
  rintro e w4 ⟨rfl, qd, hw⟩
  replace H : Hid (Side w0 w4 [ownT 5 y ((ints im).map (Value.int .u8)), rackT 5 22 l0' (vs ++ [(x, (ints im).map (Value.int .u8))]), blkT b 53 (bookCells l0' l2), blkT bx 59 [.int .u8 kd, .int .i64 at_, dv, kv], DiskT g d F, RefT r d G, rackT 3 69 l2 us, blkT pb 55 (pairCells g r b)]) := H.out.quiet (by rw [hw]; exact (Chg.refl [] _).drewN _)
  clear hw
  go_wp2_with fail
  go_ret
  replace H : Hid (Side w0 w4 [DiskT g d F, RefT r d G, rackT 5 22 l0' (vs ++ [(x, (ints im).map (Value.int .u8))]), rackT 3 69 l2 us, blkT b 53 (bookCells l0' l2), blkT pb 55 (pairCells g r b)]) := ((((((((((H.out).front 0).tail).front 2).tail).front 5).front 2).front 5).front 3).front 5).front 5
  exact ⟨rfl, _, _, _, _, _, _, _, H, by omega, rfl, by simp, by omega, fun p hp => (List.mem_append.1 hp).imp id (fun h => by rw [List.mem_singleton.1 h, List.length_map, ints_length]; omega), fun p hp => .inl hp⟩

set_option maxHeartbeats 4000000 in
set_option maxRecDepth 100000 in
theorem does5 (g r b pb : Nat) (d : Dk) (F G : List Nat) (l0 l2 : Value) (vs us : List (Value × List Value)) (kd at_ : Int) (dv kv : Value) (w0 w : World)
    (h : Side w0 w (pairThings g r b pb d F G l0 l2 vs us)) (hk : Int.tmod kd 9 = 5) (ha : -9223372036854775808 ≤ at_ ∧ at_ ≤ 9223372036854775807) (hc : d.cache.length ≤ 1000000000) (hvl : vs.length ≤ 1000000) (hul : us.length ≤ 1000000) :
    Calls Try.prog 18 #[.pointer (some ⟨pb, 0, none⟩), .agg #[.int .u8 kd, .int .i64 at_, dv, kv]] w (Did w0 g r b pb d vs us) := by
  have H := Lib.hid h
  have FIT : Hid d.Fit := (h.get 1 rfl : RdIn _ _ _ _).fit
  clear h
  have H1 : Hid (Side w0 _ (blkT w.heap.size 59 [.int .u8 kd, .int .i64 at_, dv, kv] :: pairThings g r b pb d F G l0 l2 vs us)) := H.out.add ((Chg.refl _ _).alloc (.cells #[.int .u8 kd, .int .i64 at_, dv, kv] 59)) (Blk.made w [_, _, _, _] _) (fun k hk => by rw [List.mem_singleton.1 hk]; exact Nat.le_refl _)
  obtain ⟨wA, hwA⟩ : ∃ wA, wA = w.alloc (.cells #[.int .u8 kd, .int .i64 at_, dv, kv] 59) := ⟨_, rfl⟩
  obtain ⟨bx, hbx⟩ : ∃ bx, bx = w.heap.size := ⟨_, rfl⟩
  rw [← hwA, ← hbx] at H1
  replace hwA := Lib.hid hwA
  replace hbx := Lib.hid hbx
  clear H
  have H : Hid (Side w0 wA [blkT bx 59 [.int .u8 kd, .int .i64 at_, dv, kv], DiskT g d F, RefT r d G, rackT 5 22 l0 vs, rackT 3 69 l2 us, blkT b 53 (bookCells l0 l2), blkT pb 55 (pairCells g r b)]) := H1
  clear H1
  have e0 : wA.cell? ⟨pb, 0, none⟩ = some (.pointer (some ⟨g, 0, none⟩)) := (H.out.get 6 rfl : Blk _ _ _ _).cell (j := 0) rfl
  rw [hwA.out] at e0
  go_enter Try.func18, Try.ntmps18
  go_wp2_with fail
  rw [← hwA.out]
  clear e0
  have T0 := dpending_any g F d wA (H.out.get 1 rfl) hc
  have hpl : d.pending.length = d.cache.length := by simp [Dk.pending]
  obtain ⟨pn, hpn⟩ : ∃ pn, pn = d.pending := ⟨_, rfl⟩
  rw [← hpn] at T0 hpl
  replace hpl := Lib.hid hpl
  refine (T0).mono ?_
  rintro e w1 ⟨x, rfl, O, C⟩
  replace H : Hid (Side w0 w1 [ownT 3 x ((ints pn).map (Value.int .i64)), blkT bx 59 [.int .u8 kd, .int .i64 at_, dv, kv], DiskT g d F, RefT r d G, rackT 5 22 l0 vs, rackT 3 69 l2 us, blkT b 53 (bookCells l0 l2), blkT pb 55 (pairCells g r b)]) := H.out.own O.out C.out
  clear O C
  clear T0
  have e2 : w1.cell? ⟨pb, 2, none⟩ = some (.pointer (some ⟨b, 0, none⟩)) := (H.out.get 7 rfl : Blk _ _ _ _).cell (j := 2) rfl
  go_wp2_with fail
  clear e2
  replace H : Hid (Side w0 w1 [ownT 3 x ((ints pn).map (Value.int .i64)), rackT 3 69 l2 us, blkT b 53 (bookCells l0 l2), blkT bx 59 [.int .u8 kd, .int .i64 at_, dv, kv], DiskT g d F, RefT r d G, rackT 5 22 l0 vs, blkT pb 55 (pairCells g r b)]) := ((((((((H.out).front 7).front 5).front 5).front 5).front 5).front 7).front 7).front 7
  refine (bookInts_side H.out rfl hul).mono ?_
  rintro e w2 ⟨rfl, l2', HB⟩
  clear H
  have H : Hid (Side w0 w2 [rackT 3 69 l2' (us ++ [(x, (ints pn).map (Value.int .i64))]), blkT b 53 (bookCells l0 l2'), blkT bx 59 [.int .u8 kd, .int .i64 at_, dv, kv], DiskT g d F, RefT r d G, rackT 5 22 l0 vs, blkT pb 55 (pairCells g r b)]) := HB
  clear HB
  have e1 : w2.cell? ⟨pb, 1, none⟩ = some (.pointer (some ⟨r, 0, none⟩)) := (H.out.get 6 rfl : Blk _ _ _ _).cell (j := 1) rfl
  go_wp2_with fail
  clear e1
  have T0 := rpending_any r G d w2 (H.out.get 4 rfl) hc
  rw [← hpn] at T0
  refine (T0).mono ?_
  rintro e w3 ⟨y, rfl, O, C⟩
  replace H : Hid (Side w0 w3 [ownT 3 y ((ints pn).map (Value.int .i64)), rackT 3 69 l2' (us ++ [(x, (ints pn).map (Value.int .i64))]), blkT b 53 (bookCells l0 l2'), blkT bx 59 [.int .u8 kd, .int .i64 at_, dv, kv], DiskT g d F, RefT r d G, rackT 5 22 l0 vs, blkT pb 55 (pairCells g r b)]) := H.out.own O.out C.out
  clear O C
  clear T0
  have SX : Hid (RdV w3 x ((ints pn).map (Value.int .i64))) := by have hr : Rack _ _ _ _ _ := H.out.get 1 rfl; exact OwnR.rd (hr.row us.length _ _ (by simp))
  go_wp2_with fail
  refine (same_ints _ _ (ints pn) _ SX.out (RdV.owned (H.out.get 0 rfl)) (by rw [ints_length, hpl.out]; omega)).mono ?_
  rintro e w4 ⟨rfl, qd, hw⟩
  replace H : Hid (Side w0 w4 [ownT 3 y ((ints pn).map (Value.int .i64)), rackT 3 69 l2' (us ++ [(x, (ints pn).map (Value.int .i64))]), blkT b 53 (bookCells l0 l2'), blkT bx 59 [.int .u8 kd, .int .i64 at_, dv, kv], DiskT g d F, RefT r d G, rackT 5 22 l0 vs, blkT pb 55 (pairCells g r b)]) := H.out.quiet (by rw [hw]; exact (Chg.refl [] _).drewN _)
  clear hw
  go_wp2_with fail
  go_ret
  replace H : Hid (Side w0 w4 [DiskT g d F, RefT r d G, rackT 5 22 l0 vs, rackT 3 69 l2' (us ++ [(x, (ints pn).map (Value.int .i64))]), blkT b 53 (bookCells l0 l2'), blkT pb 55 (pairCells g r b)]) := ((((((((((H.out).front 0).tail).front 2).tail).front 5).front 2).front 2).front 5).front 5).front 5
  exact ⟨rfl, _, _, _, _, _, _, _, H, by omega, rfl, by omega, by simp, fun p hp => .inl hp, fun p hp => (List.mem_append.1 hp).imp id (fun h => by rw [List.mem_singleton.1 h, List.length_map, ints_length, hpl.out]; exact Nat.le_refl _)⟩

end Go.Proofs.Ytjkjkennplfgaaa
