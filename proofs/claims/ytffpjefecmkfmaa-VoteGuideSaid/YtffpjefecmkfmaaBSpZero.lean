/-
  A row of the table of fields: bytes that nobody has. By an AI agent.
-/
import Derived.Test.YtffpjefecmkfmaaBSpFld
namespace Go.Proofs.Ytffpjefecmkfmaa
open Go.RowKit

theorem enters_put_zero (args : Array Value) (w : World) : (callFunc 79 args).run Try.prog w = .ok (.enter 79 args) w := by
  have h1 : (Try.f79.name == "runtime.NumGoroutine") = false := by kernel_rfl
  have h2 : Try.f79.body.isNone = false := by kernel_rfl
  have h3 : ¬ Try.f79.name = "runtime.NumGoroutine" := by simpa using h1
  have h4 : ¬ Try.f79.body = none := fun e => by rw [e] at h2; cases h2
  simp [callFunc, go_sem, Try.func79, h3, h4]

theorem enters_read_zero (args : Array Value) (w : World) : (callFunc 81 args).run Try.prog w = .ok (.enter 81 args) w := by
  have h1 : (Try.f81.name == "runtime.NumGoroutine") = false := by kernel_rfl
  have h2 : Try.f81.body.isNone = false := by kernel_rfl
  have h3 : ¬ Try.f81.name = "runtime.NumGoroutine" := by simpa using h1
  have h4 : ¬ Try.f81.body = none := fun e => by rw [e] at h2; cases h2
  simp [callFunc, go_sem, Try.func81, h3, h4]

set_option maxHeartbeats 400000 in
set_option maxRecDepth 100000 in
theorem put_zero (a b g n : Nat) (s : PS) (w : World) (ha : w.cell? ⟨a, 0, none⟩ = some (.int .i64 n)) (hn : n ≤ 64) (h : Pk w b g s) :
    Calls Try.prog 79 #[.pointer (some ⟨b, 0, none⟩), .pointer (some ⟨a, 0, none⟩)] w (Puts w b g s (List.replicate n 0)) := by
  have hf := fill_any b g s (n : Int) 0 w h (by omega) (by decide) (by decide)
  rw [Int.toNat_natCast] at hf
  clear h
  go_enter Try.func79, Try.ntmps79
  go_wp2_with fail
  refine hf.mono ?_
  rintro e w' ⟨rfl, k1, k2⟩
  replace k1 := Lib.hid k1
  replace k2 := Lib.hid k2
  clear hf
  go_wp2_with fail
  go_end0
  exact ⟨rfl, k1.out, k2.out⟩

set_option maxHeartbeats 400000 in
set_option maxRecDepth 100000 in
theorem read_zero (a b n : Nat) (v : Value) (s : RS) (w : World) (ha : w.cell? ⟨a, 0, none⟩ = some (.int .i64 n)) (hn : n ≤ 64) (h : Rd w b v s) :
    Calls Try.prog 81 #[.pointer (some ⟨b, 0, none⟩), .pointer (some ⟨a, 0, none⟩)] w fun e w' => e = .returned (.tuple #[]) ∧ Hid (Rd w' b v (s.next n)) ∧ Hid (Chg [b] w w') := by
  have hf := rawR_any b v s (n : Int) w h (by omega)
  rw [Int.toNat_natCast] at hf
  clear h
  go_enter Try.func81, Try.ntmps81
  go_wp2_with fail
  refine hf.mono ?_
  rintro e w' ⟨rv, rfl, k0, k1, k2⟩
  replace k1 := Lib.hid k1
  replace k2 := Lib.hid k2
  clear hf k0
  go_wp2_with fail
  go_end0
  exact ⟨rfl, k1, k2⟩

theorem field_zero {w : World} {B a c n : Nat} (ha : w.cell? ⟨a, 0, none⟩ = some (.int .i64 n)) (hn : n ≤ 64) (ba : B ≤ a) :
    FieldOk w B c (.agg #[.func (.func 79) #[] #[.pointer (some ⟨a, 0, none⟩)], .func (.func 81) #[] #[.pointer (some ⟨a, 0, none⟩)]]) ⟨none, n⟩ := by
  have hal := World.block_lt_of_cell? w _ ha
  refine ⟨_, _, _, _, rfl, ⟨enters_put_zero, ?_⟩, ⟨enters_read_zero, ?_⟩⟩
  · intro w' t b g s cs ch ht pk bl _
    exact put_zero a b g n s w' ((ch.cell (p := ⟨a, 0, none⟩) hal (fun hm => by have := ht a hm; omega)).trans ha) hn pk
  · intro w' t b v s cs ch ht rd bl hb hc hcb hvc h0 hroom ho
    refine (read_zero a b n v s w' ((ch.cell (p := ⟨a, 0, none⟩) hal (fun hm => by have := ht a hm; omega)).trans ha) hn rd).mono ?_
    rintro e w2 ⟨rfl, k1, k2⟩
    exact ⟨rfl, k1, bl.chg k2.out (by simpa using hcb), k2.out.mono (by simp)⟩

set_option maxHeartbeats 400000 in
set_option maxRecDepth 100000 in
theorem zeros_any (c n : Nat) (hn : n ≤ 64) (w : World) :
    Calls Try.prog 61 #[.int .i64 n] w fun e w' => ∃ v, e = .returned v ∧ Hid (FieldOk w' w.heap.size c v ⟨none, n⟩) ∧ Hid (Chg [] w w') := by
  have HN := Lib.hid hn
  clear hn
  go_enter Try.func61, Try.ntmps61
  go_wp2_with fail
  have e1 : (w.alloc (.cells #[.int .i64 n] 3)).heap.size = w.heap.size + 1 := by simp
  have b1 := (Blk.made w [.int .i64 n] 3).alloc (.cells #[.func (.func 79) #[] #[.pointer (some ⟨w.heap.size, 0, none⟩)], .func (.func 81) #[] #[.pointer (some ⟨w.heap.size, 0, none⟩)]] 87)
  have b2 := Blk.made (w.alloc (.cells #[.int .i64 n] 3)) [.func (.func 79) #[] #[.pointer (some ⟨w.heap.size, 0, none⟩)], .func (.func 81) #[] #[.pointer (some ⟨w.heap.size, 0, none⟩)]] 87
  rw [e1] at b2
  refine bodyPost_ret (results_cell_row rfl _ _ (w.heap.size + 1) _ _ _ _ rfl b2 Try.underlying87 rfl info_field) rfl ?_
  exact ⟨_, rfl, field_zero (b1.cell rfl) HN.out (Nat.le_refl _), ((Chg.refl [] w).alloc _).alloc _⟩

end Go.Proofs.Ytffpjefecmkfmaa
