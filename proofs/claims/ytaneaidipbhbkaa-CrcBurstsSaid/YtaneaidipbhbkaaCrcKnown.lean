/-
  'known' says yes. By an AI agent.
-/
import Derived.Test.YtaneaidipbhbkaaCrcCarry
import Derived.Lib.SlBytesConst
namespace Go.Proofs.Ytaneaidipbhbkaa
open Go.RowKit
open Crc

theorem sl_made (w : World) (xs : List Int) (c : Nat) (fr : Nat × Nat) : Sl (w.alloc (.cells (xs.map (Value.int .u8)).toArray 5 fr)) (.slice (some ⟨w.heap.size, 0, none⟩) xs.length c) xs := by
  have h : (w.alloc (.cells (xs.map (Value.int .u8)).toArray 5 fr)).heap[w.heap.size]? = some (.cells (xs.map (Value.int .u8)).toArray 5 fr) := heap_alloc_new w _
  refine .inr ⟨_, 0, c, rfl, by simp, fun j hj => ?_⟩
  unfold World.cell?
  rw [h]
  simp [List.getD, List.getElem?_eq_getElem hj]

theorem by_dec {xs : List Int} (h : xs.all (fun x => decide (0 ≤ x) && decide (x ≤ 255)) = true) : By xs := by
  intro x hx
  have := List.all_eq_true.1 h x hx
  simpa using this

set_option maxHeartbeats 1000000 in
set_option maxRecDepth 100000 in
theorem known_any (w : World) : Calls Try.prog 15 #[] w fun e w' => e = .returned (.bool true) ∧ Hid (Chg [] w w') := by
  have k1 : ((join (sum (nats [49, 50, 51, 52])) (sum (nats [53, 54, 55, 56, 57])) 5 : Nat) : Int) = 3808858755 := by decide +kernel
  have k2 : ((sum (nats [49, 50, 51, 52, 53, 54, 55, 56, 57]) : Nat) : Int) = 3808858755 := by decide +kernel
  have k3 : ((sum (nats [0]) : Nat) : Int) = 1383945041 := by decide +kernel
  have k4 : ((sum (nats []) : Nat) : Int) = 0 := by decide +kernel
  have l1 : sum (nats [49, 50, 51, 52]) < 4294967296 := by decide +kernel
  have l2 : sum (nats [53, 54, 55, 56, 57]) < 4294967296 := by decide +kernel
  have s1 := fun w => sum_any _ [49, 50, 51, 52] _ (sl_made w [49, 50, 51, 52] 4 (4, 5)) (by_dec rfl) (by decide)
  have s2 := fun w => sum_any _ [53, 54, 55, 56, 57] _ (sl_made w [53, 54, 55, 56, 57] 5 (5, 6)) (by_dec rfl) (by decide)
  have s3 := fun w => sum_any _ [49, 50, 51, 52, 53, 54, 55, 56, 57] _ (sl_made w [49, 50, 51, 52, 53, 54, 55, 56, 57] 9 (9, 10)) (by_dec rfl) (by decide)
  have s4 := fun w => sum_any _ [0] _ (sl_made w [0] 1 (0, 0)) (by_dec rfl) (by decide)
  have s5 := fun w => sum_any (.slice none 0 0) [] w (.inl ⟨rfl, _, _, rfl⟩) (by_dec rfl) (by decide)
  rw [k2] at s3
  rw [k3] at s4
  rw [k4] at s5
  clear k2 k3 k4
  generalize sum (nats [49, 50, 51, 52]) = a at *
  generalize sum (nats [53, 54, 55, 56, 57]) = b at *
  have s6 := fun w => join_any a b 5 w l1 l2 (by decide)
  rw [k1] at s6
  clear k1 l1 l2
  have kc := fun (w : World) (C : Array Value) (n c : Nat) => Lib.run_convert_bytes_const (P := Try.prog) w 23 5 C n c Try.underlying23 Try.underlying5
  go_enter Try.func15, Try.ntmps15
  go_wp2_with fail
  refine (s1 _).mono ?_
  rintro e w1 ⟨rfl, D1⟩
  go_wp2_with fail
  refine (s2 _).mono ?_
  rintro e w2 ⟨rfl, D2⟩
  go_wp2_with fail
  refine (s6 _).mono ?_
  rintro e w3 ⟨rfl, D3⟩
  go_wp2_with fail
  refine (s3 _).mono ?_
  rintro e w4 ⟨rfl, D4⟩
  go_wp2_with fail
  refine (s4 _).mono ?_
  rintro e w5 ⟨rfl, D5⟩
  go_wp2_with fail
  refine (s5 _).mono ?_
  rintro e w6 ⟨rfl, D6⟩
  go_wp2_with fail
  go_ret
  exact ⟨rfl, (((((((((((Chg.refl [] w).alloc _).trans D1.out).alloc _).trans D2.out).trans D3.out).alloc _).trans D4.out).alloc _).trans D5.out).trans D6.out)⟩

end Go.Proofs.Ytaneaidipbhbkaa
