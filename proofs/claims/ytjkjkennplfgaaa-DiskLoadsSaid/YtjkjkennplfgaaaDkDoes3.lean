/-
  'does' of the disks' law, the last kinds. By an AI agent.
-/
import Derived.Test.YtjkjkennplfgaaaDkDoes2
namespace Go.Proofs.Ytjkjkennplfgaaa
open Go.RowKit

set_option maxHeartbeats 4000000 in
set_option maxRecDepth 100000 in
theorem does8 (g r b pb : Nat) (d : Dk) (F G : List Nat) (l0 l2 : Value) (vs us : List (Value × List Value)) (kd at_ : Int) (dv kv : Value) (w0 w : World)
    (h : Side w0 w (pairThings g r b pb d F G l0 l2 vs us)) (hk : Int.tmod kd 9 = 8) (ha : -9223372036854775808 ≤ at_ ∧ at_ ≤ 9223372036854775807) (hc : d.cache.length ≤ 1000000000) (hvl : vs.length ≤ 1000000) (hul : us.length ≤ 1000000) :
    Calls Try.prog 18 #[.pointer (some ⟨pb, 0, none⟩), .agg #[.int .u8 kd, .int .i64 at_, dv, kv]] w (Did w0 g r b pb d vs us) := by
  have H := Lib.hid h
  have FIT : Hid d.Fit := (h.get 1 rfl : RdIn _ _ _ _).fit
  clear h
  have H1 : Hid (Side w0 _ (blkT w.heap.size 59 [.int .u8 kd, .int .i64 at_, dv, kv] :: pairThings g r b pb d F G l0 l2 vs us)) := H.out.add ((Chg.refl _ _).alloc (.cells #[.int .u8 kd, .int .i64 at_, dv, kv] 59)) (Blk.made w [_, _, _, _] _) (fun k hk => by rw [List.mem_singleton.1 hk]; exact Nat.le_refl _)
  obtain ⟨wA, hwA⟩ : ∃ wA, wA = w.alloc (.cells #[.int .u8 kd, .int .i64 at_, dv, kv] 59) := ⟨_, rfl⟩
  obtain ⟨bx, hbx⟩ : ∃ bx, bx = w.heap.size := ⟨_, rfl⟩
  rw [← hwA, ← hbx] at H1
  replace hwA := Lib.hid hwA
  replace hbx := Lib.hid hbx
  clear H
  have H : Hid (Side w0 wA [blkT bx 59 [.int .u8 kd, .int .i64 at_, dv, kv], DiskT g d F, RefT r d G, rackT 5 22 l0 vs, rackT 3 69 l2 us, blkT b 53 (bookCells l0 l2), blkT pb 55 (pairCells g r b)]) := H1
  clear H1
  go_enter Try.func18, Try.ntmps18
  go_wp2_with fail
  rw [← hwA.out]
  have s1 : Hid (∀ n, Calls Try.prog 29 #[.pointer (some ⟨g, 0, none⟩)] (wA.drewN n) fun e w' => e = .returned (.int .i64 (d.last.length : Int)) ∧ ∃ q, w' = (wA.drewN n).drewN q) := fun n => dsectors_any g F d _ ((H.out.quiet ((Chg.refl [] _).drewN n)).get 1 rfl)
  have s2 : Hid (∀ n, Calls Try.prog 26 #[.pointer (some ⟨g, 0, none⟩)] (wA.drewN n) fun e w' => e = .returned (.bool d.bad) ∧ ∃ q, w' = (wA.drewN n).drewN q) := fun n => dfailed_any g F d _ ((H.out.quiet ((Chg.refl [] _).drewN n)).get 1 rfl)
  have s3 : Hid (∀ n, Calls Try.prog 42 #[.pointer (some ⟨r, 0, none⟩)] (wA.drewN n) fun e w' => e = .returned (.int .i64 (d.last.length : Int)) ∧ ∃ q, w' = (wA.drewN n).drewN q) := fun n => rsectors_any r G d _ ((H.out.quiet ((Chg.refl [] _).drewN n)).get 2 rfl)
  have e0 : wA.cell? ⟨pb, 0, none⟩ = some (.pointer (some ⟨g, 0, none⟩)) := (H.out.get 6 rfl : Blk _ _ _ _).cell (j := 0) rfl
  have e1 : wA.cell? ⟨pb, 1, none⟩ = some (.pointer (some ⟨r, 0, none⟩)) := (H.out.get 6 rfl : Blk _ _ _ _).cell (j := 1) rfl
  obtain ⟨_, _, _, rr⟩ := (H.out.get 2 rfl : RdIn _ _ _ _).rep
  have e2 : wA.cell? ⟨r, 2, none⟩ = some (.bool d.bad) := rr.blk.cell (j := 2) rfl
  clear rr
  go_quiet (first | (go_at_call 29; exact Calls.quiet_of (s1.out _)) | (go_at_call 26; exact Calls.quiet_of (s2.out _)) | (go_at_call 42; exact Calls.quiet_of (s3.out _)))
  replace H : Hid (Side w0 (wA.drewN nq) [blkT bx 59 [.int .u8 kd, .int .i64 at_, dv, kv], DiskT g d F, RefT r d G, rackT 5 22 l0 vs, rackT 3 69 l2 us, blkT b 53 (bookCells l0 l2), blkT pb 55 (pairCells g r b)]) := H.out.quiet ((Chg.refl [] _).drewN nq)
  go_wp2_with fail
  go_ret
  replace H : Hid (Side w0 (wA.drewN nq) [DiskT g d F, RefT r d G, rackT 5 22 l0 vs, rackT 3 69 l2 us, blkT b 53 (bookCells l0 l2), blkT pb 55 (pairCells g r b)]) := ((((((((H.out).front 0).tail).front 5).front 5).front 5).front 5).front 5).front 5
  exact Did.same H (by omega) rfl

set_option maxHeartbeats 4000000 in
set_option maxRecDepth 100000 in
theorem does7 (g r b pb : Nat) (d : Dk) (F G : List Nat) (l0 l2 : Value) (vs us : List (Value × List Value)) (kd at_ : Int) (dv kv : Value) (w0 w : World)
    (h : Side w0 w (pairThings g r b pb d F G l0 l2 vs us)) (hk : Int.tmod kd 9 = 7) (ha : -9223372036854775808 ≤ at_ ∧ at_ ≤ 9223372036854775807) (hc : d.cache.length ≤ 1000000000) (hvl : vs.length ≤ 1000000) (hul : us.length ≤ 1000000) (hat : ¬ at_ = 77) :
    Calls Try.prog 18 #[.pointer (some ⟨pb, 0, none⟩), .agg #[.int .u8 kd, .int .i64 at_, dv, kv]] w (Did w0 g r b pb d vs us) := by
  have H := Lib.hid h
  have FIT : Hid d.Fit := (h.get 1 rfl : RdIn _ _ _ _).fit
  clear h
  have H1 : Hid (Side w0 _ (blkT w.heap.size 59 [.int .u8 kd, .int .i64 at_, dv, kv] :: pairThings g r b pb d F G l0 l2 vs us)) := H.out.add ((Chg.refl _ _).alloc (.cells #[.int .u8 kd, .int .i64 at_, dv, kv] 59)) (Blk.made w [_, _, _, _] _) (fun k hk => by rw [List.mem_singleton.1 hk]; exact Nat.le_refl _)
  obtain ⟨wA, hwA⟩ : ∃ wA, wA = w.alloc (.cells #[.int .u8 kd, .int .i64 at_, dv, kv] 59) := ⟨_, rfl⟩
  obtain ⟨bx, hbx⟩ : ∃ bx, bx = w.heap.size := ⟨_, rfl⟩
  rw [← hwA, ← hbx] at H1
  replace hwA := Lib.hid hwA
  replace hbx := Lib.hid hbx
  clear H
  have H : Hid (Side w0 wA [blkT bx 59 [.int .u8 kd, .int .i64 at_, dv, kv], DiskT g d F, RefT r d G, rackT 5 22 l0 vs, rackT 3 69 l2 us, blkT b 53 (bookCells l0 l2), blkT pb 55 (pairCells g r b)]) := H1
  clear H1
  go_enter Try.func18, Try.ntmps18
  go_wp2_with fail
  rw [← hwA.out]
  have s1 : Hid (∀ n, Calls Try.prog 29 #[.pointer (some ⟨g, 0, none⟩)] (wA.drewN n) fun e w' => e = .returned (.int .i64 (d.last.length : Int)) ∧ ∃ q, w' = (wA.drewN n).drewN q) := fun n => dsectors_any g F d _ ((H.out.quiet ((Chg.refl [] _).drewN n)).get 1 rfl)
  have s2 : Hid (∀ n, Calls Try.prog 26 #[.pointer (some ⟨g, 0, none⟩)] (wA.drewN n) fun e w' => e = .returned (.bool d.bad) ∧ ∃ q, w' = (wA.drewN n).drewN q) := fun n => dfailed_any g F d _ ((H.out.quiet ((Chg.refl [] _).drewN n)).get 1 rfl)
  have s3 : Hid (∀ n, Calls Try.prog 42 #[.pointer (some ⟨r, 0, none⟩)] (wA.drewN n) fun e w' => e = .returned (.int .i64 (d.last.length : Int)) ∧ ∃ q, w' = (wA.drewN n).drewN q) := fun n => rsectors_any r G d _ ((H.out.quiet ((Chg.refl [] _).drewN n)).get 2 rfl)
  have e0 : wA.cell? ⟨pb, 0, none⟩ = some (.pointer (some ⟨g, 0, none⟩)) := (H.out.get 6 rfl : Blk _ _ _ _).cell (j := 0) rfl
  have e1 : wA.cell? ⟨pb, 1, none⟩ = some (.pointer (some ⟨r, 0, none⟩)) := (H.out.get 6 rfl : Blk _ _ _ _).cell (j := 1) rfl
  obtain ⟨_, _, _, rr⟩ := (H.out.get 2 rfl : RdIn _ _ _ _).rep
  have e2 : wA.cell? ⟨r, 2, none⟩ = some (.bool d.bad) := rr.blk.cell (j := 2) rfl
  clear rr
  go_quiet (first | (go_at_call 29; exact Calls.quiet_of (s1.out _)) | (go_at_call 26; exact Calls.quiet_of (s2.out _)) | (go_at_call 42; exact Calls.quiet_of (s3.out _)))
  replace H : Hid (Side w0 (wA.drewN nq) [blkT bx 59 [.int .u8 kd, .int .i64 at_, dv, kv], DiskT g d F, RefT r d G, rackT 5 22 l0 vs, rackT 3 69 l2 us, blkT b 53 (bookCells l0 l2), blkT pb 55 (pairCells g r b)]) := H.out.quiet ((Chg.refl [] _).drewN nq)
  go_wp2_with fail
  go_ret
  replace H : Hid (Side w0 (wA.drewN nq) [DiskT g d F, RefT r d G, rackT 5 22 l0 vs, rackT 3 69 l2 us, blkT b 53 (bookCells l0 l2), blkT pb 55 (pairCells g r b)]) := ((((((((H.out).front 0).tail).front 5).front 5).front 5).front 5).front 5).front 5
  exact Did.same H (by omega) rfl

set_option maxHeartbeats 4000000 in
set_option maxRecDepth 100000 in
theorem does7_77 (g r b pb : Nat) (d : Dk) (F G : List Nat) (l0 l2 : Value) (vs us : List (Value × List Value)) (kd : Int) (dv kv : Value) (w0 w : World)
    (h : Side w0 w (pairThings g r b pb d F G l0 l2 vs us)) (hk : Int.tmod kd 9 = 7) (hc : d.cache.length ≤ 1000000000) (hvl : vs.length ≤ 1000000) (hul : us.length ≤ 1000000) :
    Calls Try.prog 18 #[.pointer (some ⟨pb, 0, none⟩), .agg #[.int .u8 kd, .int .i64 77, dv, kv]] w (Did w0 g r b pb d vs us) := by
  have H := Lib.hid h
  have FIT : Hid d.Fit := (h.get 1 rfl : RdIn _ _ _ _).fit
  clear h
  have H1 : Hid (Side w0 _ (blkT w.heap.size 59 [.int .u8 kd, .int .i64 77, dv, kv] :: pairThings g r b pb d F G l0 l2 vs us)) := H.out.add ((Chg.refl _ _).alloc (.cells #[.int .u8 kd, .int .i64 77, dv, kv] 59)) (Blk.made w [_, _, _, _] _) (fun k hk => by rw [List.mem_singleton.1 hk]; exact Nat.le_refl _)
  obtain ⟨wA, hwA⟩ : ∃ wA, wA = w.alloc (.cells #[.int .u8 kd, .int .i64 77, dv, kv] 59) := ⟨_, rfl⟩
  obtain ⟨bx, hbx⟩ : ∃ bx, bx = w.heap.size := ⟨_, rfl⟩
  rw [← hwA, ← hbx] at H1
  replace hwA := Lib.hid hwA
  replace hbx := Lib.hid hbx
  clear H
  have H : Hid (Side w0 wA [blkT bx 59 [.int .u8 kd, .int .i64 77, dv, kv], DiskT g d F, RefT r d G, rackT 5 22 l0 vs, rackT 3 69 l2 us, blkT b 53 (bookCells l0 l2), blkT pb 55 (pairCells g r b)]) := H1
  clear H1
  have e0 : wA.cell? ⟨pb, 0, none⟩ = some (.pointer (some ⟨g, 0, none⟩)) := (H.out.get 6 rfl : Blk _ _ _ _).cell (j := 0) rfl
  rw [hwA.out] at e0
  go_enter Try.func18, Try.ntmps18
  go_wp2_with fail
  rw [← hwA.out]
  clear e0
  have T0 := dfail_any g F d wA (H.out.get 1 rfl)
  refine (T0).mono ?_
  rintro e w1 ⟨rfl, T⟩
  obtain ⟨F1, H1⟩ := H.out.act 1 rfl T.out
  replace H : Hid (Side w0 w1 [blkT bx 59 [.int .u8 kd, .int .i64 77, dv, kv], DiskT g d.fail F1, RefT r d G, rackT 5 22 l0 vs, rackT 3 69 l2 us, blkT b 53 (bookCells l0 l2), blkT pb 55 (pairCells g r b)]) := H1
  clear H1 T
  clear T0
  have e1 : w1.cell? ⟨pb, 1, none⟩ = some (.pointer (some ⟨r, 0, none⟩)) := (H.out.get 6 rfl : Blk _ _ _ _).cell (j := 1) rfl
  go_wp2_with fail
  clear e1
  have T0 := rfail_any r G d w1 (H.out.get 2 rfl)
  refine (T0).mono ?_
  rintro e w2 ⟨rfl, T⟩
  obtain ⟨G1, H1⟩ := H.out.act 2 rfl T.out
  replace H : Hid (Side w0 w2 [blkT bx 59 [.int .u8 kd, .int .i64 77, dv, kv], DiskT g d.fail F1, RefT r d.fail G1, rackT 5 22 l0 vs, rackT 3 69 l2 us, blkT b 53 (bookCells l0 l2), blkT pb 55 (pairCells g r b)]) := H1
  clear H1 T
  clear T0
  go_wp2_with fail
  have s1 : Hid (∀ n, Calls Try.prog 29 #[.pointer (some ⟨g, 0, none⟩)] (w2.drewN n) fun e w' => e = .returned (.int .i64 (d.fail.last.length : Int)) ∧ ∃ q, w' = (w2.drewN n).drewN q) := fun n => dsectors_any g F1 d.fail _ ((H.out.quiet ((Chg.refl [] _).drewN n)).get 1 rfl)
  have s2 : Hid (∀ n, Calls Try.prog 26 #[.pointer (some ⟨g, 0, none⟩)] (w2.drewN n) fun e w' => e = .returned (.bool d.fail.bad) ∧ ∃ q, w' = (w2.drewN n).drewN q) := fun n => dfailed_any g F1 d.fail _ ((H.out.quiet ((Chg.refl [] _).drewN n)).get 1 rfl)
  have s3 : Hid (∀ n, Calls Try.prog 42 #[.pointer (some ⟨r, 0, none⟩)] (w2.drewN n) fun e w' => e = .returned (.int .i64 (d.fail.last.length : Int)) ∧ ∃ q, w' = (w2.drewN n).drewN q) := fun n => rsectors_any r G1 d.fail _ ((H.out.quiet ((Chg.refl [] _).drewN n)).get 2 rfl)
  have e0 : w2.cell? ⟨pb, 0, none⟩ = some (.pointer (some ⟨g, 0, none⟩)) := (H.out.get 6 rfl : Blk _ _ _ _).cell (j := 0) rfl
  have e1 : w2.cell? ⟨pb, 1, none⟩ = some (.pointer (some ⟨r, 0, none⟩)) := (H.out.get 6 rfl : Blk _ _ _ _).cell (j := 1) rfl
  obtain ⟨_, _, _, rr⟩ := (H.out.get 2 rfl : RdIn _ _ _ _).rep
  have e2 : w2.cell? ⟨r, 2, none⟩ = some (.bool d.fail.bad) := rr.blk.cell (j := 2) rfl
  clear rr
  go_quiet (first | (go_at_call 29; exact Calls.quiet_of (s1.out _)) | (go_at_call 26; exact Calls.quiet_of (s2.out _)) | (go_at_call 42; exact Calls.quiet_of (s3.out _)))
  replace H : Hid (Side w0 (w2.drewN nq) [blkT bx 59 [.int .u8 kd, .int .i64 77, dv, kv], DiskT g d.fail F1, RefT r d.fail G1, rackT 5 22 l0 vs, rackT 3 69 l2 us, blkT b 53 (bookCells l0 l2), blkT pb 55 (pairCells g r b)]) := H.out.quiet ((Chg.refl [] _).drewN nq)
  go_wp2_with fail
  go_ret
  replace H : Hid (Side w0 (w2.drewN nq) [DiskT g d.fail F1, RefT r d.fail G1, rackT 5 22 l0 vs, rackT 3 69 l2 us, blkT b 53 (bookCells l0 l2), blkT pb 55 (pairCells g r b)]) := ((((((((H.out).front 0).tail).front 5).front 5).front 5).front 5).front 5).front 5
  exact Did.same H (Nat.zero_le _) rfl

end Go.Proofs.Ytjkjkennplfgaaa
