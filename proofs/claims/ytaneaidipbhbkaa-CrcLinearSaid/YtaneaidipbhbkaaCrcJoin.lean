/-
  The program's Join: matrices as arrays. By an AI agent.
-/
import Derived.Test.YtaneaidipbhbkaaCrcMore
namespace Go.Proofs.Ytaneaidipbhbkaa
open Go.RowKit
open Crc

/-- The matrix of the function f lies in block g. -/
structure Arr (w : World) (g : Nat) (f : Nat → Nat) : Prop where
  lt : g < w.heap.size
  cell : ∀ i, i < 32 → w.cell? ⟨g, i, none⟩ = some (.int .u32 ((f i : Nat) : Int))

theorem Arr.chg {w w' : World} {g : Nat} {s : List Nat} {f : Nat → Nat} (h : Arr w g f) (c : Chg s w w') (hs : g ∉ s) : Arr w' g f :=
  ⟨Nat.lt_of_lt_of_le h.lt c.size, fun i hi => (c.cell (p := ⟨g, i, none⟩) h.lt hs).trans (h.cell i hi)⟩

theorem Upto.arr {w : World} {g : Nat} {e : TypeId} {f : Nat → Nat} (h : Upto w g 32 e f 32) : Arr w g f := ⟨h.lt, fun _ hi => h.cell hi⟩

/-- The columns as a list. -/
def cols (f : Nat → Nat) : List Nat := (List.range 32).map f

theorem cols_len (f : Nat → Nat) : (cols f).length = 32 := by simp [cols]

theorem cols_get (f : Nat → Nat) {i : Nat} (h : i < 32) : (cols f).getD i 0 = f i := by simp [cols, List.getD, h]

/-- The columns of k bits shifted out. -/
def pows (k i : Nat) : Nat := thr k (2 ^ i)

theorem pows_rep (k : Nat) : Rep (cols (pows k)) (thr k) := rep_thr k (cols_len _) (fun _ hi => cols_get _ hi)

theorem pows_lt (k : Nat) {i : Nat} (h : i < 32) : pows k i < 4294967296 := thr_lt k (pow_lt32 h)

/-- A new matrix, in a block of its own. -/
def Arrayed (w : World) (f : Nat → Nat) (e : Ending) (w' : World) : Prop := ∃ g, e = .returned (.pointer (some ⟨g, 0, none⟩)) ∧ Hid (Arr w' g f) ∧ Hid (Chg [] w w') ∧ w.heap.size ≤ g

set_option maxHeartbeats 1000000 in
set_option maxRecDepth 100000 in
theorem zero_any (w : World) : Calls Try.prog 29 #[] w (Arrayed w (pows 8)) := by
  go_enter Try.func29, Try.ntmps29
  go_wp2_with fail
  refine (table_any w).mono ?_
  rintro e w1 ⟨t, rfl, T, D1, -⟩
  go_wp2_with fail
  go_loopw [5] (fun i wr => ∃ k : Nat, k ≤ 32 ∧ i = .int .i64 k ∧ Hid (Upto wr w1.heap.size 32 61 (pows 8) k) ∧ Hid (Chg [] w1 wr)) (fun i _ => 32 - (intOf i).toNat)
  case atStart => exact ⟨0, Nat.zero_le _, rfl, ⟨⟨List.replicate 32 (.int .u32 0), rfl, Blk.made w1 _ _, fun i hi => by omega⟩⟩, (Chg.refl _ _).alloc _⟩
  case round =>
    obtain ⟨k, hk, rfl, U, D⟩ := hrel
    by_cases hlt : k < 32
    · have f1 := U.out.free k
      obtain ⟨u, hu⟩ := U.out.open hlt
      have hk0 : (0 : Int) ≤ k := Int.natCast_nonneg _
      have hk1 : (k : Int) < 32 := by omega
      have hp := pow_lt32 hlt
      have hsh : (2 : Int) ^ k % 4294967296 = ((2 ^ k : Nat) : Int) := by
        have e : ((2 ^ k : Nat) : Int) = (2 : Int) ^ k := by simp
        rw [← e]
        exact Int.emod_eq_of_lt (Int.natCast_nonneg _) (Int.ofNat_lt.2 hp)
      have ht := take_any t (2 ^ k) 0 wr (T.out.chg D.out (by simp)) hp (by decide)
      rw [Nat.xor_zero] at ht
      have S := Lib.hid (U.out.step hlt)
      change Hid (Upto (wr.setCell _ (.int .u32 ((thr 8 (2 ^ k) : Nat) : Int))) _ _ _ _ _) at S
      generalize 2 ^ k = pp at *
      go_wp2_with fail
      rw [hsh]
      refine ht.mono ?_
      rintro e w' ⟨rfl, rfl⟩
      generalize thr 8 pp = y at *
      go_wp2_with fail
      exact ⟨⟨k + 1, by omega, by go_num, S, D.out.setCell (.inr (Nat.le_refl _)) _⟩, by simp [intOf]; omega⟩
    · obtain rfl : k = 32 := by omega
      go_wp2_with fail
      go_ret
      exact ⟨w1.heap.size, rfl, U.out.arr, D1.out.trans D.out, D1.out.size⟩

set_option maxHeartbeats 400000 in
theorem arrTimes_any (g : Nat) (f : Nat → Nat) (n : Nat) (w : World) (h : Arr w g f) (hf : ∀ i, i < 32 → f i < 4294967296) (hn : n < 4294967296) :
    Calls Try.prog 30 #[.pointer (some ⟨g, 0, none⟩), .int .u32 n] w fun e w' => e = .returned (.int .u32 (times (cols f) n 32)) ∧ ∃ q, w' = w.drewN q := by
  have HC := Lib.hid h
  have HM := Lib.hid (show ∀ i, (cols f).getD i 0 < 4294967296 from fun i => by
    by_cases hi : i < 32
    · rw [cols_get f hi]; exact hf i hi
    · rw [List.getD_eq_getElem?_getD, List.getElem?_eq_none (by rw [cols_len]; omega)]; decide)
  clear h hf
  go_enter Try.func30, Try.ntmps30
  go_wp2_with fail
  go_loopw [5, 9] (fun v i wr => ∃ k : Nat, k ≤ 32 ∧ i = .int .i64 k ∧ v = .int .u32 (times (cols f) n k) ∧ ∃ q, wr = w.drewN q) (fun _ i _ => 32 - (intOf i).toNat)
  case atStart => exact ⟨0, Nat.zero_le _, rfl, rfl, 0, rfl⟩
  case round =>
    obtain ⟨k, hk, rfl, rfl, q, rfl⟩ := hrel
    by_cases hlt : k < 32
    · have hb := bit_ask n k hn
      have hcell := HC.out.cell k hlt
      have ht := times_lt HM.out n k
      have hmk := HM.out k
      rw [cols_get f hlt] at hmk
      have HT := Lib.hid (show times (cols f) n (k + 1) = times (cols f) n k ^^^ (if n.testBit k then f k else 0) by rw [times, cols_get f hlt])
      generalize times (cols f) n k = x at *
      generalize f k = y at *
      have hx := u32_xor_nat x y ht hmk
      have hk0 : (0 : Int) ≤ k := Int.natCast_nonneg _
      have hk1 : (k : Int) < 32 := by omega
      by_cases hbit : n.testBit k = true
      · rw [if_pos hbit] at hb
        have hv := HT.out
        rw [if_pos hbit] at hv
        have HV := Lib.hid hv
        clear hv HT hbit
        go_wp2_with fail
        go_quiet (fail)
        go_wp2_with fail
        exact ⟨⟨k + 1, by omega, by go_num, by rw [HV.out], _, rfl⟩, by simp [intOf]; omega⟩
      · rw [if_neg hbit] at hb
        have hv := HT.out
        rw [if_neg hbit, Nat.xor_zero] at hv
        have HV := Lib.hid hv
        clear hv HT hbit
        go_wp2_with fail
        go_quiet (fail)
        go_wp2_with fail
        exact ⟨⟨k + 1, by omega, by go_num, by rw [HV.out], _, rfl⟩, by simp [intOf]; omega⟩
    · obtain rfl : k = 32 := by omega
      go_wp2_with fail
      go_ret
      exact ⟨rfl, _, rfl⟩

/-- A register behind a matrix, for a matrix of shifts. -/
theorem arrTimes_thr (g k n : Nat) (w : World) (h : Arr w g (pows k)) (hn : n < 4294967296) :
    Calls Try.prog 30 #[.pointer (some ⟨g, 0, none⟩), .int .u32 n] w fun e w' => e = .returned (.int .u32 (thr k n)) ∧ ∃ q, w' = w.drewN q := by
  have := arrTimes_any g (pows k) n w h (fun i hi => pows_lt k hi) hn
  rw [times_all (pows_rep k) hn] at this
  exact this

theorem pows_twice (k : Nat) {i : Nat} : pows (2 * k) i = thr k (pows k i) := (thr_twice k (2 ^ i)).symm

theorem Arr.drewN {w : World} {g : Nat} {f : Nat → Nat} (h : Arr w g f) (n : Nat) : Arr (w.drewN n) g f := ⟨h.lt, h.cell⟩

set_option maxHeartbeats 1000000 in
set_option maxRecDepth 100000 in
theorem square_any (g k : Nat) (w : World) (h : Arr w g (pows k)) :
    Calls Try.prog 31 #[.pointer (some ⟨g, 0, none⟩)] w (Arrayed w (pows (2 * k))) := by
  have HC := Lib.hid h
  clear h
  go_enter Try.func31, Try.ntmps31
  go_wp2_with fail
  go_loopw [7] (fun i wr => ∃ j : Nat, j ≤ 32 ∧ i = .int .i64 j ∧ Hid (Upto wr w.heap.size 32 61 (pows (2 * k)) j) ∧ Hid (Chg [] w wr)) (fun i _ => 32 - (intOf i).toNat)
  case atStart => exact ⟨0, Nat.zero_le _, rfl, ⟨⟨List.replicate 32 (.int .u32 0), rfl, Blk.made w _ _, fun i hi => by omega⟩⟩, (Chg.refl _ _).alloc _⟩
  case round =>
    obtain ⟨j, hj, rfl, U, D⟩ := hrel
    by_cases hlt : j < 32
    · have A := Lib.hid (HC.out.chg D.out (by simp))
      have hcell := A.out.cell j hlt
      have hpl := pows_lt k hlt
      have S : Hid (∀ n, Upto ((wr.drewN n).setCell ⟨w.heap.size, j, none⟩ (.int .u32 ((thr k (pows k j) : Nat) : Int))) w.heap.size 32 61 (pows (2 * k)) (j + 1)) := by
        intro n
        have := (show Upto (wr.drewN n) w.heap.size 32 61 (pows (2 * k)) j from U.out.chg ((Chg.refl [] wr).drewN n) (by simp)).step hlt
        rw [pows_twice] at this
        exact this
      have f1 := U.out.free j
      obtain ⟨u, hu⟩ := U.out.open hlt
      have hk0 : (0 : Int) ≤ j := Int.natCast_nonneg _
      have hk1 : (j : Int) < 32 := by omega
      generalize pows k j = pp at *
      go_wp2_with fail
      go_quiet (fail)
      go_wp2_with fail
      refine (arrTimes_thr g k pp _ (A.out.drewN _) hpl).mono ?_
      rintro e w' ⟨rfl, q, rfl⟩
      generalize thr k pp = y at *
      go_wp2_with fail
      exact ⟨⟨j + 1, by omega, by go_num, S.out _, (D.out.drewN _).setCell (.inr (Nat.le_refl _)) _⟩, by simp [intOf]; omega⟩
    · obtain rfl : j = 32 := by omega
      go_wp2_with fail
      go_ret
      exact ⟨w.heap.size, rfl, U.out.arr, D, Nat.le_refl _⟩

end Go.Proofs.Ytaneaidipbhbkaa
