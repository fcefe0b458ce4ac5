/-
  'does' of the disks' law: an act of the program's disk and of the document's. By an AI agent.
-/
import Derived.Test.YtjkjkennplfgaaaDkKeeps
import Derived.Test.YtjkjkennplfgaaaRefDisk6
import Derived.Test.YtjkjkennplfgaaaGBookOwn
import Derived.Test.YtjkjkennplfgaaaGLentBools
namespace Go.Proofs.Ytjkjkennplfgaaa
open Go.RowKit

/-- The pair's cells. -/
def pairCells (g r b : Nat) : List Value := [.pointer (some ⟨g, 0, none⟩), .pointer (some ⟨r, 0, none⟩), .pointer (some ⟨b, 0, none⟩)]

/-- A disk and the document's, with one state; a book with its racks; the pair. -/
def pairThings (g r b pb : Nat) (d : Dk) (F G : List Nat) (l0 l2 : Value) (vs us : List (Value × List Value)) : List Thing :=
  [DiskT g d F, RefT r d G, rackT 5 22 l0 vs, rackT 3 69 l2 us, blkT b 53 (bookCells l0 l2), blkT pb 55 (pairCells g r b)]

theorem Dk.check_le (d : Dk) (a : Int) : d.check a ≤ 3 := by
  unfold Dk.check
  split
  · decide
  · split <;> decide

theorem Dk.readVal_le {d : Dk} (h : d.Fit) (a : Int) : (d.readVal a).length ≤ 128 := by
  unfold Dk.readVal
  split
  · rename_i hc
    have hh : d.has a := by
      unfold Dk.check at hc
      split at hc
      · cases hc
      · split at hc
        · assumption
        · cases hc
    have := hh.1
    have := hh.2
    rw [(Dk.now_len h (by omega)).1]
    exact Nat.le_refl _
  · simp

/-- Behind an act. -/
def Did (w0 : World) (g r b pb : Nat) (d : Dk) (vs us : List (Value × List Value)) (e : Ending) (w' : World) : Prop :=
  e = .returned (.bool true) ∧ ∃ d' F G l0 l2 vs' us', Hid (Side w0 w' (pairThings g r b pb d' F G l0 l2 vs' us')) ∧ d'.cache.length ≤ d.cache.length + 1 ∧ d'.last.length = d.last.length ∧ vs'.length ≤ vs.length + 1 ∧ us'.length ≤ us.length + 1 ∧ (∀ p ∈ vs', p ∈ vs ∨ p.2.length ≤ 1048576) ∧ (∀ p ∈ us', p ∈ us ∨ p.2.length ≤ d.cache.length)

theorem Did.same {w0 w' : World} {g r b pb : Nat} {d d' : Dk} {F G : List Nat} {l0 l2 : Value} {vs us : List (Value × List Value)} (h : Hid (Side w0 w' (pairThings g r b pb d' F G l0 l2 vs us))) (h1 : d'.cache.length ≤ d.cache.length + 1) (h2 : d'.last.length = d.last.length) : Did w0 g r b pb d vs us (.returned (.bool true)) w' :=
  ⟨rfl, d', F, G, l0, l2, vs, us, h, h1, h2, by omega, by omega, fun p hp => .inl hp, fun p hp => .inl hp⟩

theorem Dk.lays_len (l : List (List Nat)) (ws : List (Nat × List Nat)) : (ws.foldl Dk.lay l).length = l.length := Dk.lays_length ws l

theorem Dk.flush_len (d : Dk) : d.flush.cache.length ≤ d.cache.length + 1 ∧ d.flush.last.length = d.last.length := by
  unfold Dk.flush
  split
  · exact ⟨by omega, rfl⟩
  · exact ⟨by simp, Dk.lays_length _ _⟩

theorem Dk.crash_len (d : Dk) (keep : List Bool) : (d.crash keep).cache.length ≤ d.cache.length + 1 ∧ (d.crash keep).last.length = d.last.length := by
  unfold Dk.crash
  split
  · exact ⟨by omega, rfl⟩
  · exact ⟨by simp, Dk.lays_length _ _⟩

set_option maxHeartbeats 4000000 in
set_option maxRecDepth 100000 in
theorem does0 (g r b pb : Nat) (d : Dk) (F G : List Nat) (l0 l2 : Value) (vs us : List (Value × List Value)) (kd at_ : Int) (dv kv : Value) (w0 w : World)
    (h : Side w0 w (pairThings g r b pb d F G l0 l2 vs us)) (hk : Int.tmod kd 9 = 0) (ha : -9223372036854775808 ≤ at_ ∧ at_ ≤ 9223372036854775807) (hc : d.cache.length ≤ 1000000000) (hvl : vs.length ≤ 1000000) :
    Calls Try.prog 18 #[.pointer (some ⟨pb, 0, none⟩), .agg #[.int .u8 kd, .int .i64 at_, dv, kv]] w (Did w0 g r b pb d vs us) := by
  have H := Lib.hid h
  have FIT : Hid d.Fit := (h.get 1 rfl : RdIn _ _ _ _).fit
  clear h
  go_enter Try.func18, Try.ntmps18
  go_wp2_with fail
  have H1 : Hid (Side w0 _ (blkT w.heap.size 59 [.int .u8 kd, .int .i64 at_, dv, kv] :: pairThings g r b pb d F G l0 l2 vs us)) := H.out.add ((Chg.refl _ _).alloc (.cells #[.int .u8 kd, .int .i64 at_, dv, kv] 59)) (Blk.made w [_, _, _, _] _) (fun k hk => by rw [List.mem_singleton.1 hk]; exact Nat.le_refl _)
  generalize w.alloc (.cells #[.int .u8 kd, .int .i64 at_, dv, kv] 59) = wA at *
  generalize w.heap.size = bx at *
  clear H
  have H : Hid (Side w0 wA [blkT bx 59 [.int .u8 kd, .int .i64 at_, dv, kv], DiskT g d F, RefT r d G, rackT 5 22 l0 vs, rackT 3 69 l2 us, blkT b 53 (bookCells l0 l2), blkT pb 55 (pairCells g r b)]) := H1
  clear H1
  have e0 : wA.cell? ⟨pb, 0, none⟩ = some (.pointer (some ⟨g, 0, none⟩)) := (H.out.get 6 rfl : Blk _ _ _ _).cell (j := 0) rfl
  have e1 : wA.cell? ⟨bx, 1, none⟩ = some (.int .i64 at_) := (H.out.get 0 rfl : Blk _ _ _ _).cell (j := 1) rfl
  go_region_held3 (fun w' : World => w'.cell? ⟨pb, 0, none⟩ = some (.pointer (some ⟨g, 0, none⟩)) ∧ w'.cell? ⟨bx, 1, none⟩ = some (.int .i64 at_)) (first | exact ⟨(H2.out.get 7 rfl : Blk _ _ _ _).cell (j := 0) rfl, (H2.out.get 1 rfl : Blk _ _ _ _).cell (j := 1) rfl⟩ | exact ⟨e0, e1⟩) (first | (go_at_call 25; refine (dread_any g F d at_ _ ((H.out.quiet ((Chg.refl [] wA).drewN 1)).get 1 rfl) ha).mono ?_; rintro e w1 ⟨tx, x, rfl, O, C⟩; have H2 := Lib.hid ((H.out.quiet ((Chg.refl [] wA).drewN 1)).own O.out C.out)))
  clear H e0 e1
  have H : Hid (Side w0 w1 [ownT tx x ((ints (d.readVal at_)).map (Value.int .u8)), blkT bx 59 [.int .u8 kd, .int .i64 at_, dv, kv], DiskT g d F, RefT r d G, rackT 5 22 l0 vs, rackT 3 69 l2 us, blkT b 53 (bookCells l0 l2), blkT pb 55 (pairCells g r b)]) := H2
  clear H2 O C
  go_wp2_with fail
  have e0 : w1.cell? ⟨pb, 1, none⟩ = some (.pointer (some ⟨r, 0, none⟩)) := (H.out.get 7 rfl : Blk _ _ _ _).cell (j := 1) rfl
  have e1 : w1.cell? ⟨bx, 1, none⟩ = some (.int .i64 at_) := (H.out.get 1 rfl : Blk _ _ _ _).cell (j := 1) rfl
  go_region_held3 (fun w' : World => w'.cell? ⟨pb, 1, none⟩ = some (.pointer (some ⟨r, 0, none⟩)) ∧ w'.cell? ⟨bx, 1, none⟩ = some (.int .i64 at_)) (first | exact ⟨(H2.out.get 8 rfl : Blk _ _ _ _).cell (j := 1) rfl, (H2.out.get 2 rfl : Blk _ _ _ _).cell (j := 1) rfl⟩ | exact ⟨e0, e1⟩) (first | (go_at_call 31; refine (rread_any r G d at_ _ ((H.out.quiet ((Chg.refl [] w1).drewN 1)).get 3 rfl) ha hc).mono ?_; rintro e w2 ⟨y, rfl, O, C⟩; have H2 := Lib.hid ((H.out.quiet ((Chg.refl [] w1).drewN 1)).own O.out C.out)))
  clear H e0 e1
  have H : Hid (Side w0 w2 [ownT 5 y ((ints (d.readVal at_)).map (Value.int .u8)), ownT tx x ((ints (d.readVal at_)).map (Value.int .u8)), blkT bx 59 [.int .u8 kd, .int .i64 at_, dv, kv], DiskT g d F, RefT r d G, rackT 5 22 l0 vs, rackT 3 69 l2 us, blkT b 53 (bookCells l0 l2), blkT pb 55 (pairCells g r b)]) := H2
  clear H2 O C
  have e2 : w2.cell? ⟨pb, 2, none⟩ = some (.pointer (some ⟨b, 0, none⟩)) := (H.out.get 8 rfl : Blk _ _ _ _).cell (j := 2) rfl
  go_wp2_with fail
  clear e2
  replace H : Hid (Side w0 w2 [ownT tx x ((ints (d.readVal at_)).map (Value.int .u8)), rackT 5 22 l0 vs, blkT b 53 (bookCells l0 l2), ownT 5 y ((ints (d.readVal at_)).map (Value.int .u8)), blkT bx 59 [.int .u8 kd, .int .i64 at_, dv, kv], DiskT g d F, RefT r d G, rackT 3 69 l2 us, blkT pb 55 (pairCells g r b)]) := (((((((((H.out).front 8).front 7).front 6).front 6).front 6).front 5).front 8).front 8).front 8
  refine (bookBytes_side H.out rfl hvl).mono ?_
  rintro e w3 ⟨rfl, l0', HB⟩
  clear H
  have H : Hid (Side w0 w3 [rackT 5 22 l0' (vs ++ [(x, ((ints (d.readVal at_)).map (Value.int .u8)))]), blkT b 53 (bookCells l0' l2), ownT 5 y ((ints (d.readVal at_)).map (Value.int .u8)), blkT bx 59 [.int .u8 kd, .int .i64 at_, dv, kv], DiskT g d F, RefT r d G, rackT 3 69 l2 us, blkT pb 55 (pairCells g r b)]) := HB
  clear HB
  have hrl : (d.readVal at_).length ≤ 128 := Dk.readVal_le FIT.out at_
  have hck : (d.check at_ : Int) ≤ 3 := by have := Dk.check_le d at_; omega
  have hck0 : (0 : Int) ≤ d.check at_ := Int.natCast_nonneg _
  have SX : Hid (Sl w3 x (ints (d.readVal at_))) := by have hr : Rack _ _ _ _ _ := H.out.get 0 rfl; exact OwnR.sl (hr.row vs.length _ _ (by simp))
  go_wp2_with fail
  refine (same_true _ _ (ints (d.readVal at_)) _ SX.out (ownT_sl (H.out.get 2 rfl)) (by rw [ints_length]; omega)).mono ?_
  rintro e w4 ⟨rfl, qd, hw⟩
  replace H : Hid (Side w0 w4 [rackT 5 22 l0' (vs ++ [(x, ((ints (d.readVal at_)).map (Value.int .u8)))]), blkT b 53 (bookCells l0' l2), ownT 5 y ((ints (d.readVal at_)).map (Value.int .u8)), blkT bx 59 [.int .u8 kd, .int .i64 at_, dv, kv], DiskT g d F, RefT r d G, rackT 3 69 l2 us, blkT pb 55 (pairCells g r b)]) := H.out.quiet (by rw [hw]; exact (Chg.refl [] _).drewN _)
  clear hw
  go_wp2_with fail
  go_ret
  replace H : Hid (Side w0 w4 [DiskT g d F, RefT r d G, rackT 5 22 l0' (vs ++ [(x, ((ints (d.readVal at_)).map (Value.int .u8)))]), rackT 3 69 l2 us, blkT b 53 (bookCells l0' l2), blkT pb 55 (pairCells g r b)]) := ((((((((((H.out).front 2).tail).front 2).tail).front 5).front 2).front 5).front 3).front 5).front 5
  exact ⟨rfl, _, _, _, _, _, _, _, H, by omega, rfl, by simp, by omega, fun p hp => (List.mem_append.1 hp).imp id (fun h => by rw [List.mem_singleton.1 h, List.length_map, ints_length]; omega), fun p hp => .inl hp⟩

end Go.Proofs.Ytjkjkennplfgaaa
