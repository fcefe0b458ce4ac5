/-
  'does' of the disks' law, a write and a crash. By an AI agent.
-/
import Derived.Test.YtjkjkennplfgaaaDkDoes3
namespace Go.Proofs.Ytjkjkennplfgaaa
open Go.RowKit

theorem Dk.writeErr_le (d : Dk) (a : Int) (b : List Nat) : d.writeErr a b ≤ 4 := by
  unfold Dk.writeErr
  split
  · split <;> omega
  · exact Nat.le_trans (Dk.check_le d a) (by decide)

theorem Dk.write_len (d : Dk) (a : Int) (b : List Nat) : (d.write a b).cache.length ≤ d.cache.length + 1 ∧ (d.write a b).last.length = d.last.length := by
  unfold Dk.write
  split
  · exact ⟨by simp, rfl⟩
  · exact ⟨by omega, rfl⟩

set_option maxHeartbeats 4000000 in
set_option maxRecDepth 100000 in
theorem does1 (g r b pb : Nat) (d : Dk) (F G : List Nat) (l0 l2 : Value) (vs us : List (Value × List Value)) (kd at_ : Int) (dv kv : Value) (w0 w : World)
    (h : Side w0 w (pairThings g r b pb d F G l0 l2 vs us)) (hk : Int.tmod kd 9 = 1) (ha : -9223372036854775808 ≤ at_ ∧ at_ ≤ 9223372036854775807) (hc : d.cache.length ≤ 1000000000) (hvl : vs.length ≤ 1000000) (hul : us.length ≤ 1000000) (xs : List Int) (DV : Hid (∀ w', Chg [] w0 w' → Sl w' dv xs)) (hby : By xs) (hxl : xs.length ≤ 140737488355328) :
    Calls Try.prog 18 #[.pointer (some ⟨pb, 0, none⟩), .agg #[.int .u8 kd, .int .i64 at_, dv, kv]] w (Did w0 g r b pb d vs us) := by
  have H := Lib.hid h
  have FIT : Hid d.Fit := (h.get 1 rfl : RdIn _ _ _ _).fit
  clear h
  have H1 : Hid (Side w0 _ (blkT w.heap.size 59 [.int .u8 kd, .int .i64 at_, dv, kv] :: pairThings g r b pb d F G l0 l2 vs us)) := H.out.add ((Chg.refl _ _).alloc (.cells #[.int .u8 kd, .int .i64 at_, dv, kv] 59)) (Blk.made w [_, _, _, _] _) (fun k hk => by rw [List.mem_singleton.1 hk]; exact Nat.le_refl _)
  obtain ⟨wA, hwA⟩ : ∃ wA, wA = w.alloc (.cells #[.int .u8 kd, .int .i64 at_, dv, kv] 59) := ⟨_, rfl⟩
  obtain ⟨bx, hbx⟩ : ∃ bx, bx = w.heap.size := ⟨_, rfl⟩
  rw [← hwA, ← hbx] at H1
  replace hwA := Lib.hid hwA
  replace hbx := Lib.hid hbx
  clear H
  have H : Hid (Side w0 wA [blkT bx 59 [.int .u8 kd, .int .i64 at_, dv, kv], DiskT g d F, RefT r d G, rackT 5 22 l0 vs, rackT 3 69 l2 us, blkT b 53 (bookCells l0 l2), blkT pb 55 (pairCells g r b)]) := H1
  clear H1
  go_enter Try.func18, Try.ntmps18
  go_wp2_with fail
  rw [← hwA.out]
  rw [← hbx.out]
  have T0 := lent_any dv xs wA (DV.out _ H.out.chg) hxl
  refine T0.mono ?_
  rintro e w1 ⟨lg, rfl, LB, LC, ln⟩
  replace H : Hid (Side w0 w1 [blkT lg 5 ((xs ++ [91, 92]).map (Value.int .u8)), blkT bx 59 [.int .u8 kd, .int .i64 at_, dv, kv], DiskT g d F, RefT r d G, rackT 5 22 l0 vs, rackT 3 69 l2 us, blkT b 53 (bookCells l0 l2), blkT pb 55 (pairCells g r b)]) := H.out.add LC LB (fun k hk => by rw [List.mem_singleton.1 hk]; exact ln)
  clear LB LC ln T0
  go_wp2_with fail
  have e0 : w1.cell? ⟨pb, 0, none⟩ = some (.pointer (some ⟨g, 0, none⟩)) := (H.out.get 7 rfl : Blk _ _ _ _).cell (j := 0) rfl
  have f0 : w1.cell? ⟨bx, 1, none⟩ = some (.int .i64 at_) := (H.out.get 1 rfl : Blk _ _ _ _).cell (j := 1) rfl
  go_region_held3 (fun w' : World => w'.cell? ⟨pb, 0, none⟩ = some (.pointer (some ⟨g, 0, none⟩)) ∧ w'.cell? ⟨bx, 1, none⟩ = some (.int .i64 at_)) (first | exact ⟨(H2.out.get 7 rfl : Blk _ _ _ _).cell (j := 0) rfl, (H2.out.get 1 rfl : Blk _ _ _ _).cell (j := 1) rfl⟩ | exact ⟨e0, f0⟩) (first | (go_at_call 22; refine (dwrite_any g F d at_ _ xs _ ((H.out.quiet ((Chg.refl [] w1).drewN 1)).get 2 rfl) ha (Blk.sl ((H.out.quiet ((Chg.refl [] w1).drewN 1)).get 0 rfl)) hby hxl hc).mono ?_; rintro e w2 ⟨rfl, T⟩; obtain ⟨F1, H1⟩ := (H.out.quiet ((Chg.refl [] w1).drewN 1)).act 2 rfl T.out; have H2 : Hid (Side w0 w2 [blkT lg 5 ((xs ++ [91, 92]).map (Value.int .u8)), blkT bx 59 [.int .u8 kd, .int .i64 at_, dv, kv], DiskT g (d.write at_ (nats xs)) F1, RefT r d G, rackT 5 22 l0 vs, rackT 3 69 l2 us, blkT b 53 (bookCells l0 l2), blkT pb 55 (pairCells g r b)]) := H1))
  clear H e0 f0
  have H : Hid (Side w0 w2 [blkT lg 5 ((xs ++ [91, 92]).map (Value.int .u8)), blkT bx 59 [.int .u8 kd, .int .i64 at_, dv, kv], DiskT g (d.write at_ (nats xs)) F1, RefT r d G, rackT 5 22 l0 vs, rackT 3 69 l2 us, blkT b 53 (bookCells l0 l2), blkT pb 55 (pairCells g r b)]) := H2
  clear H2 T
  go_wp2_with fail
  have e0 : w2.cell? ⟨pb, 1, none⟩ = some (.pointer (some ⟨r, 0, none⟩)) := (H.out.get 7 rfl : Blk _ _ _ _).cell (j := 1) rfl
  have f0 : w2.cell? ⟨bx, 1, none⟩ = some (.int .i64 at_) := (H.out.get 1 rfl : Blk _ _ _ _).cell (j := 1) rfl
  have f1 : w2.cell? ⟨bx, 2, none⟩ = some dv := (H.out.get 1 rfl : Blk _ _ _ _).cell (j := 2) rfl
  go_region_held3 (fun w' : World => w'.cell? ⟨pb, 1, none⟩ = some (.pointer (some ⟨r, 0, none⟩)) ∧ w'.cell? ⟨bx, 1, none⟩ = some (.int .i64 at_) ∧ w'.cell? ⟨bx, 2, none⟩ = some dv) (first | exact ⟨(H2.out.get 7 rfl : Blk _ _ _ _).cell (j := 1) rfl, (H2.out.get 1 rfl : Blk _ _ _ _).cell (j := 1) rfl, (H2.out.get 1 rfl : Blk _ _ _ _).cell (j := 2) rfl⟩ | exact ⟨e0, f0, f1⟩) (first | (go_at_call 32; refine (rwrite_any r G d at_ _ xs _ ((H.out.quiet ((Chg.refl [] w2).drewN 1)).get 3 rfl) ha (DV.out _ (H.out.chg.trans ((Chg.refl [] w2).drewN 1))) hby hxl hc).mono ?_; rintro e w3 ⟨rfl, T⟩; obtain ⟨G1, H1⟩ := (H.out.quiet ((Chg.refl [] w2).drewN 1)).act 3 rfl T.out; have H2 : Hid (Side w0 w3 [blkT lg 5 ((xs ++ [91, 92]).map (Value.int .u8)), blkT bx 59 [.int .u8 kd, .int .i64 at_, dv, kv], DiskT g (d.write at_ (nats xs)) F1, RefT r (d.write at_ (nats xs)) G1, rackT 5 22 l0 vs, rackT 3 69 l2 us, blkT b 53 (bookCells l0 l2), blkT pb 55 (pairCells g r b)]) := H1))
  clear H e0 f0 f1
  have H : Hid (Side w0 w3 [blkT lg 5 ((xs ++ [91, 92]).map (Value.int .u8)), blkT bx 59 [.int .u8 kd, .int .i64 at_, dv, kv], DiskT g (d.write at_ (nats xs)) F1, RefT r (d.write at_ (nats xs)) G1, rackT 5 22 l0 vs, rackT 3 69 l2 us, blkT b 53 (bookCells l0 l2), blkT pb 55 (pairCells g r b)]) := H2
  clear H2 T
  have f0 : w3.cell? ⟨bx, 2, none⟩ = some dv := (H.out.get 1 rfl : Blk _ _ _ _).cell (j := 2) rfl
  go_wp2_with fail
  clear f0
  refine (whole_any lg dv xs _ (H.out.get 0 rfl) (DV.out _ H.out.chg) hxl).mono ?_
  rintro e w4 ⟨rfl, qd, hw⟩
  replace H : Hid (Side w0 w4 [blkT lg 5 ((xs ++ [91, 92]).map (Value.int .u8)), blkT bx 59 [.int .u8 kd, .int .i64 at_, dv, kv], DiskT g (d.write at_ (nats xs)) F1, RefT r (d.write at_ (nats xs)) G1, rackT 5 22 l0 vs, rackT 3 69 l2 us, blkT b 53 (bookCells l0 l2), blkT pb 55 (pairCells g r b)]) := H.out.quiet (by rw [hw]; exact (Chg.refl [] _).drewN _)
  clear hw
  go_wp2_with fail
  refine (spoil_any lg xs.length (xs ++ [91, 92]) _ (H.out.get 0 rfl) (by simp) hxl).mono ?_
  rintro e w5 ⟨rfl, C⟩
  replace H : Hid (Side w0 w5 [blkT bx 59 [.int .u8 kd, .int .i64 at_, dv, kv], DiskT g (d.write at_ (nats xs)) F1, RefT r (d.write at_ (nats xs)) G1, rackT 5 22 l0 vs, rackT 3 69 l2 us, blkT b 53 (bookCells l0 l2), blkT pb 55 (pairCells g r b)]) := H.out.spent C (fun k hk => hk)
  clear C
  have hck : ((d.writeErr at_ (nats xs) : Nat) : Int) ≤ 4 := by have := Dk.writeErr_le d at_ (nats xs); omega
  have hck0 : (0 : Int) ≤ (d.writeErr at_ (nats xs) : Nat) := Int.natCast_nonneg _
  go_wp2_with fail
  go_ret
  replace H : Hid (Side w0 w5 [DiskT g (d.write at_ (nats xs)) F1, RefT r (d.write at_ (nats xs)) G1, rackT 5 22 l0 vs, rackT 3 69 l2 us, blkT b 53 (bookCells l0 l2), blkT pb 55 (pairCells g r b)]) := ((((((((H.out).front 0).tail).front 5).front 5).front 5).front 5).front 5).front 5
  exact Did.same H (Dk.write_len d at_ (nats xs)).1 (Dk.write_len d at_ (nats xs)).2

set_option maxHeartbeats 4000000 in
set_option maxRecDepth 100000 in
theorem does2 (g r b pb : Nat) (d : Dk) (F G : List Nat) (l0 l2 : Value) (vs us : List (Value × List Value)) (kd at_ : Int) (dv kv : Value) (w0 w : World)
    (h : Side w0 w (pairThings g r b pb d F G l0 l2 vs us)) (hk : Int.tmod kd 9 = 2) (ha : -9223372036854775808 ≤ at_ ∧ at_ ≤ 9223372036854775807) (hc : d.cache.length ≤ 1000000000) (hvl : vs.length ≤ 1000000) (hul : us.length ≤ 1000000) (xs : List Int) (DV : Hid (∀ w', Chg [] w0 w' → Sl w' dv xs)) (hby : By xs) (hxl : xs.length ≤ 140737488355328) :
    Calls Try.prog 18 #[.pointer (some ⟨pb, 0, none⟩), .agg #[.int .u8 kd, .int .i64 at_, dv, kv]] w (Did w0 g r b pb d vs us) := by
  have H := Lib.hid h
  have FIT : Hid d.Fit := (h.get 1 rfl : RdIn _ _ _ _).fit
  clear h
  have H1 : Hid (Side w0 _ (blkT w.heap.size 59 [.int .u8 kd, .int .i64 at_, dv, kv] :: pairThings g r b pb d F G l0 l2 vs us)) := H.out.add ((Chg.refl _ _).alloc (.cells #[.int .u8 kd, .int .i64 at_, dv, kv] 59)) (Blk.made w [_, _, _, _] _) (fun k hk => by rw [List.mem_singleton.1 hk]; exact Nat.le_refl _)
  obtain ⟨wA, hwA⟩ : ∃ wA, wA = w.alloc (.cells #[.int .u8 kd, .int .i64 at_, dv, kv] 59) := ⟨_, rfl⟩
  obtain ⟨bx, hbx⟩ : ∃ bx, bx = w.heap.size := ⟨_, rfl⟩
  rw [← hwA, ← hbx] at H1
  replace hwA := Lib.hid hwA
  replace hbx := Lib.hid hbx
  clear H
  have H : Hid (Side w0 wA [blkT bx 59 [.int .u8 kd, .int .i64 at_, dv, kv], DiskT g d F, RefT r d G, rackT 5 22 l0 vs, rackT 3 69 l2 us, blkT b 53 (bookCells l0 l2), blkT pb 55 (pairCells g r b)]) := H1
  clear H1
  go_enter Try.func18, Try.ntmps18
  go_wp2_with fail
  rw [← hwA.out]
  rw [← hbx.out]
  have T0 := lent_any dv xs wA (DV.out _ H.out.chg) hxl
  refine T0.mono ?_
  rintro e w1 ⟨lg, rfl, LB, LC, ln⟩
  replace H : Hid (Side w0 w1 [blkT lg 5 ((xs ++ [91, 92]).map (Value.int .u8)), blkT bx 59 [.int .u8 kd, .int .i64 at_, dv, kv], DiskT g d F, RefT r d G, rackT 5 22 l0 vs, rackT 3 69 l2 us, blkT b 53 (bookCells l0 l2), blkT pb 55 (pairCells g r b)]) := H.out.add LC LB (fun k hk => by rw [List.mem_singleton.1 hk]; exact ln)
  clear LB LC ln T0
  go_wp2_with fail
  have e0 : w1.cell? ⟨pb, 0, none⟩ = some (.pointer (some ⟨g, 0, none⟩)) := (H.out.get 7 rfl : Blk _ _ _ _).cell (j := 0) rfl
  have f0 : w1.cell? ⟨bx, 1, none⟩ = some (.int .i64 at_) := (H.out.get 1 rfl : Blk _ _ _ _).cell (j := 1) rfl
  go_region_held3 (fun w' : World => w'.cell? ⟨pb, 0, none⟩ = some (.pointer (some ⟨g, 0, none⟩)) ∧ w'.cell? ⟨bx, 1, none⟩ = some (.int .i64 at_)) (first | exact ⟨(H2.out.get 7 rfl : Blk _ _ _ _).cell (j := 0) rfl, (H2.out.get 1 rfl : Blk _ _ _ _).cell (j := 1) rfl⟩ | exact ⟨e0, f0⟩) (first | (go_at_call 22; refine (dwrite_any g F d at_ _ xs _ ((H.out.quiet ((Chg.refl [] w1).drewN 1)).get 2 rfl) ha (Blk.sl ((H.out.quiet ((Chg.refl [] w1).drewN 1)).get 0 rfl)) hby hxl hc).mono ?_; rintro e w2 ⟨rfl, T⟩; obtain ⟨F1, H1⟩ := (H.out.quiet ((Chg.refl [] w1).drewN 1)).act 2 rfl T.out; have H2 : Hid (Side w0 w2 [blkT lg 5 ((xs ++ [91, 92]).map (Value.int .u8)), blkT bx 59 [.int .u8 kd, .int .i64 at_, dv, kv], DiskT g (d.write at_ (nats xs)) F1, RefT r d G, rackT 5 22 l0 vs, rackT 3 69 l2 us, blkT b 53 (bookCells l0 l2), blkT pb 55 (pairCells g r b)]) := H1))
  clear H e0 f0
  have H : Hid (Side w0 w2 [blkT lg 5 ((xs ++ [91, 92]).map (Value.int .u8)), blkT bx 59 [.int .u8 kd, .int .i64 at_, dv, kv], DiskT g (d.write at_ (nats xs)) F1, RefT r d G, rackT 5 22 l0 vs, rackT 3 69 l2 us, blkT b 53 (bookCells l0 l2), blkT pb 55 (pairCells g r b)]) := H2
  clear H2 T
  go_wp2_with fail
  have e0 : w2.cell? ⟨pb, 1, none⟩ = some (.pointer (some ⟨r, 0, none⟩)) := (H.out.get 7 rfl : Blk _ _ _ _).cell (j := 1) rfl
  have f0 : w2.cell? ⟨bx, 1, none⟩ = some (.int .i64 at_) := (H.out.get 1 rfl : Blk _ _ _ _).cell (j := 1) rfl
  have f1 : w2.cell? ⟨bx, 2, none⟩ = some dv := (H.out.get 1 rfl : Blk _ _ _ _).cell (j := 2) rfl
  go_region_held3 (fun w' : World => w'.cell? ⟨pb, 1, none⟩ = some (.pointer (some ⟨r, 0, none⟩)) ∧ w'.cell? ⟨bx, 1, none⟩ = some (.int .i64 at_) ∧ w'.cell? ⟨bx, 2, none⟩ = some dv) (first | exact ⟨(H2.out.get 7 rfl : Blk _ _ _ _).cell (j := 1) rfl, (H2.out.get 1 rfl : Blk _ _ _ _).cell (j := 1) rfl, (H2.out.get 1 rfl : Blk _ _ _ _).cell (j := 2) rfl⟩ | exact ⟨e0, f0, f1⟩) (first | (go_at_call 32; refine (rwrite_any r G d at_ _ xs _ ((H.out.quiet ((Chg.refl [] w2).drewN 1)).get 3 rfl) ha (DV.out _ (H.out.chg.trans ((Chg.refl [] w2).drewN 1))) hby hxl hc).mono ?_; rintro e w3 ⟨rfl, T⟩; obtain ⟨G1, H1⟩ := (H.out.quiet ((Chg.refl [] w2).drewN 1)).act 3 rfl T.out; have H2 : Hid (Side w0 w3 [blkT lg 5 ((xs ++ [91, 92]).map (Value.int .u8)), blkT bx 59 [.int .u8 kd, .int .i64 at_, dv, kv], DiskT g (d.write at_ (nats xs)) F1, RefT r (d.write at_ (nats xs)) G1, rackT 5 22 l0 vs, rackT 3 69 l2 us, blkT b 53 (bookCells l0 l2), blkT pb 55 (pairCells g r b)]) := H1))
  clear H e0 f0 f1
  have H : Hid (Side w0 w3 [blkT lg 5 ((xs ++ [91, 92]).map (Value.int .u8)), blkT bx 59 [.int .u8 kd, .int .i64 at_, dv, kv], DiskT g (d.write at_ (nats xs)) F1, RefT r (d.write at_ (nats xs)) G1, rackT 5 22 l0 vs, rackT 3 69 l2 us, blkT b 53 (bookCells l0 l2), blkT pb 55 (pairCells g r b)]) := H2
  clear H2 T
  have f0 : w3.cell? ⟨bx, 2, none⟩ = some dv := (H.out.get 1 rfl : Blk _ _ _ _).cell (j := 2) rfl
  go_wp2_with fail
  clear f0
  refine (whole_any lg dv xs _ (H.out.get 0 rfl) (DV.out _ H.out.chg) hxl).mono ?_
  rintro e w4 ⟨rfl, qd, hw⟩
  replace H : Hid (Side w0 w4 [blkT lg 5 ((xs ++ [91, 92]).map (Value.int .u8)), blkT bx 59 [.int .u8 kd, .int .i64 at_, dv, kv], DiskT g (d.write at_ (nats xs)) F1, RefT r (d.write at_ (nats xs)) G1, rackT 5 22 l0 vs, rackT 3 69 l2 us, blkT b 53 (bookCells l0 l2), blkT pb 55 (pairCells g r b)]) := H.out.quiet (by rw [hw]; exact (Chg.refl [] _).drewN _)
  clear hw
  go_wp2_with fail
  refine (spoil_any lg xs.length (xs ++ [91, 92]) _ (H.out.get 0 rfl) (by simp) hxl).mono ?_
  rintro e w5 ⟨rfl, C⟩
  replace H : Hid (Side w0 w5 [blkT bx 59 [.int .u8 kd, .int .i64 at_, dv, kv], DiskT g (d.write at_ (nats xs)) F1, RefT r (d.write at_ (nats xs)) G1, rackT 5 22 l0 vs, rackT 3 69 l2 us, blkT b 53 (bookCells l0 l2), blkT pb 55 (pairCells g r b)]) := H.out.spent C (fun k hk => hk)
  clear C
  have hck : ((d.writeErr at_ (nats xs) : Nat) : Int) ≤ 4 := by have := Dk.writeErr_le d at_ (nats xs); omega
  have hck0 : (0 : Int) ≤ (d.writeErr at_ (nats xs) : Nat) := Int.natCast_nonneg _
  go_wp2_with fail
  go_ret
  replace H : Hid (Side w0 w5 [DiskT g (d.write at_ (nats xs)) F1, RefT r (d.write at_ (nats xs)) G1, rackT 5 22 l0 vs, rackT 3 69 l2 us, blkT b 53 (bookCells l0 l2), blkT pb 55 (pairCells g r b)]) := ((((((((H.out).front 0).tail).front 5).front 5).front 5).front 5).front 5).front 5
  exact Did.same H (Dk.write_len d at_ (nats xs)).1 (Dk.write_len d at_ (nats xs)).2

set_option maxHeartbeats 4000000 in
set_option maxRecDepth 100000 in
theorem does4 (g r b pb : Nat) (d : Dk) (F G : List Nat) (l0 l2 : Value) (vs us : List (Value × List Value)) (kd at_ : Int) (dv kv : Value) (w0 w : World)
    (h : Side w0 w (pairThings g r b pb d F G l0 l2 vs us)) (hk : Int.tmod kd 9 = 4) (ha : -9223372036854775808 ≤ at_ ∧ at_ ≤ 9223372036854775807) (hc : d.cache.length ≤ 1000000000) (hvl : vs.length ≤ 1000000) (hul : us.length ≤ 1000000) (xs : List Bool) (DV : Hid (∀ w', Chg [] w0 w' → RdV w' kv (xs.map Value.bool))) (hxl : xs.length ≤ 1000000000) (KO : Hid (xs ≠ [] → ∀ k, kv.ownBlock = some k → k < w0.heap.size)) :
    Calls Try.prog 18 #[.pointer (some ⟨pb, 0, none⟩), .agg #[.int .u8 kd, .int .i64 at_, dv, kv]] w (Did w0 g r b pb d vs us) := by
  have H := Lib.hid h
  have FIT : Hid d.Fit := (h.get 1 rfl : RdIn _ _ _ _).fit
  clear h
  have H1 : Hid (Side w0 _ (blkT w.heap.size 59 [.int .u8 kd, .int .i64 at_, dv, kv] :: pairThings g r b pb d F G l0 l2 vs us)) := H.out.add ((Chg.refl _ _).alloc (.cells #[.int .u8 kd, .int .i64 at_, dv, kv] 59)) (Blk.made w [_, _, _, _] _) (fun k hk => by rw [List.mem_singleton.1 hk]; exact Nat.le_refl _)
  obtain ⟨wA, hwA⟩ : ∃ wA, wA = w.alloc (.cells #[.int .u8 kd, .int .i64 at_, dv, kv] 59) := ⟨_, rfl⟩
  obtain ⟨bx, hbx⟩ : ∃ bx, bx = w.heap.size := ⟨_, rfl⟩
  rw [← hwA, ← hbx] at H1
  replace hwA := Lib.hid hwA
  replace hbx := Lib.hid hbx
  clear H
  have H : Hid (Side w0 wA [blkT bx 59 [.int .u8 kd, .int .i64 at_, dv, kv], DiskT g d F, RefT r d G, rackT 5 22 l0 vs, rackT 3 69 l2 us, blkT b 53 (bookCells l0 l2), blkT pb 55 (pairCells g r b)]) := H1
  clear H1
  go_enter Try.func18, Try.ntmps18
  go_wp2_with fail
  rw [← hwA.out]
  rw [← hbx.out]
  have T0 := lentBools_any kv xs wA (DV.out _ H.out.chg) (by omega)
  refine T0.mono ?_
  rintro e w1 ⟨lg, rfl, LB, LC, ln⟩
  replace H : Hid (Side w0 w1 [blkT lg 4 ((xs ++ [true, false]).map Value.bool), blkT bx 59 [.int .u8 kd, .int .i64 at_, dv, kv], DiskT g d F, RefT r d G, rackT 5 22 l0 vs, rackT 3 69 l2 us, blkT b 53 (bookCells l0 l2), blkT pb 55 (pairCells g r b)]) := H.out.add LC.out LB.out (fun k hk => by rw [List.mem_singleton.1 hk]; exact ln)
  clear LB LC ln T0
  have e0 : w1.cell? ⟨pb, 0, none⟩ = some (.pointer (some ⟨g, 0, none⟩)) := (H.out.get 7 rfl : Blk _ _ _ _).cell (j := 0) rfl
  go_wp2_with fail
  clear e0
  have T0 := dcrash_any g F d _ xs w1 (H.out.get 2 rfl) (lentBools_rd (H.out.get 0 rfl)) (hold_thing H.out (i := 0) (j := 2) rfl rfl (by decide) (fun k hk => List.mem_singleton.2 (Option.some.inj hk).symm))
  refine (T0).mono ?_
  rintro e w2 ⟨rfl, T⟩
  obtain ⟨F1, H1⟩ := H.out.act 2 rfl T.out
  replace H : Hid (Side w0 w2 [blkT lg 4 ((xs ++ [true, false]).map Value.bool), blkT bx 59 [.int .u8 kd, .int .i64 at_, dv, kv], DiskT g (d.crash xs) F1, RefT r d G, rackT 5 22 l0 vs, rackT 3 69 l2 us, blkT b 53 (bookCells l0 l2), blkT pb 55 (pairCells g r b)]) := H1
  clear H1 T
  clear T0
  go_wp2_with fail
  have e0 : w2.cell? ⟨pb, 1, none⟩ = some (.pointer (some ⟨r, 0, none⟩)) := (H.out.get 7 rfl : Blk _ _ _ _).cell (j := 1) rfl
  have f0 : w2.cell? ⟨bx, 3, none⟩ = some kv := (H.out.get 1 rfl : Blk _ _ _ _).cell (j := 3) rfl
  go_region_held3 (fun w' : World => w'.cell? ⟨pb, 1, none⟩ = some (.pointer (some ⟨r, 0, none⟩)) ∧ w'.cell? ⟨bx, 3, none⟩ = some kv) (first | exact ⟨(H2.out.get 7 rfl : Blk _ _ _ _).cell (j := 1) rfl, (H2.out.get 1 rfl : Blk _ _ _ _).cell (j := 3) rfl⟩ | exact ⟨e0, f0⟩) (first | (go_at_call 35; refine (rcrash_any r G d kv xs _ ((H.out.quiet ((Chg.refl [] w2).drewN 1)).get 3 rfl) hc (DV.out _ (H.out.chg.trans ((Chg.refl [] w2).drewN 1))) (fun hn k hk => ⟨fun hm => absurd ((H.out.quiet ((Chg.refl [] w2).drewN 1)).new _ (List.mem_of_getElem? (i := 3) rfl) k hm) (by have := KO.out hn k hk; omega), Nat.lt_of_lt_of_le (KO.out hn k hk) (H.out.quiet ((Chg.refl [] w2).drewN 1)).size⟩)).mono ?_; rintro e w3 ⟨rfl, T⟩; obtain ⟨G1, H1⟩ := (H.out.quiet ((Chg.refl [] w2).drewN 1)).act 3 rfl T.out; have H2 : Hid (Side w0 w3 [blkT lg 4 ((xs ++ [true, false]).map Value.bool), blkT bx 59 [.int .u8 kd, .int .i64 at_, dv, kv], DiskT g (d.crash xs) F1, RefT r (d.crash xs) G1, rackT 5 22 l0 vs, rackT 3 69 l2 us, blkT b 53 (bookCells l0 l2), blkT pb 55 (pairCells g r b)]) := H1))
  clear H e0 f0
  have H : Hid (Side w0 w3 [blkT lg 4 ((xs ++ [true, false]).map Value.bool), blkT bx 59 [.int .u8 kd, .int .i64 at_, dv, kv], DiskT g (d.crash xs) F1, RefT r (d.crash xs) G1, rackT 5 22 l0 vs, rackT 3 69 l2 us, blkT b 53 (bookCells l0 l2), blkT pb 55 (pairCells g r b)]) := H2
  clear H2 T
  have f0 : w3.cell? ⟨bx, 3, none⟩ = some kv := (H.out.get 1 rfl : Blk _ _ _ _).cell (j := 3) rfl
  go_wp2_with fail
  clear f0
  refine (wholeBools_any lg kv xs _ (H.out.get 0 rfl) (DV.out _ H.out.chg) (by omega)).mono ?_
  rintro e w4 ⟨rfl, qd, hw⟩
  replace H : Hid (Side w0 w4 [blkT lg 4 ((xs ++ [true, false]).map Value.bool), blkT bx 59 [.int .u8 kd, .int .i64 at_, dv, kv], DiskT g (d.crash xs) F1, RefT r (d.crash xs) G1, rackT 5 22 l0 vs, rackT 3 69 l2 us, blkT b 53 (bookCells l0 l2), blkT pb 55 (pairCells g r b)]) := H.out.quiet (by rw [hw]; exact (Chg.refl [] _).drewN _)
  clear hw
  go_wp2_with fail
  refine (spoilBools_any lg xs.length ((xs ++ [true, false]).map Value.bool) _ (H.out.get 0 rfl) (by simp) (by omega)).mono ?_
  rintro e w5 ⟨rfl, C⟩
  replace H : Hid (Side w0 w5 [blkT bx 59 [.int .u8 kd, .int .i64 at_, dv, kv], DiskT g (d.crash xs) F1, RefT r (d.crash xs) G1, rackT 5 22 l0 vs, rackT 3 69 l2 us, blkT b 53 (bookCells l0 l2), blkT pb 55 (pairCells g r b)]) := H.out.spent C (fun k hk => hk)
  clear C
  go_wp2_with fail
  go_ret
  replace H : Hid (Side w0 w5 [DiskT g (d.crash xs) F1, RefT r (d.crash xs) G1, rackT 5 22 l0 vs, rackT 3 69 l2 us, blkT b 53 (bookCells l0 l2), blkT pb 55 (pairCells g r b)]) := ((((((((H.out).front 0).tail).front 5).front 5).front 5).front 5).front 5).front 5
  exact Did.same H (Dk.crash_len d xs).1 (Dk.crash_len d xs).2

end Go.Proofs.Ytjkjkennplfgaaa
