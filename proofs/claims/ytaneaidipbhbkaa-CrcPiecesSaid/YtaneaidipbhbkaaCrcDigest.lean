/-
  The program's digest. By an AI agent.
-/
import Derived.Test.YtaneaidipbhbkaaCrcMore
namespace Go.Proofs.Ytaneaidipbhbkaa
open Go.RowKit
open Crc

/-- A digest of the bytes xs. -/
def Dig (w : World) (g s n : Nat) : Prop := Blk w g 54 [.int .u32 (s : Int), .int .i64 (n : Int)]

def Digested (w : World) (e : Ending) (w' : World) : Prop := ∃ g, e = .returned (.pointer (some ⟨g, 0, none⟩)) ∧ Hid (Dig w' g 0 0) ∧ Hid (Chg [] w w') ∧ w.heap.size ≤ g

theorem new_any (w : World) : Calls Try.prog 18 #[] w (Digested w) := by
  go_enter Try.func18, Try.ntmps18
  go_wp2_with fail
  go_ret
  exact ⟨w.heap.size, rfl, Blk.made w [.int .u32 0, .int .i64 0] _, (Chg.refl _ _).alloc _, Nat.le_refl _⟩

set_option maxRecDepth 100000 in
theorem digSum_any (g s n : Nat) (w : World) (h : Dig w g s n) :
    Calls Try.prog 21 #[.pointer (some ⟨g, 0, none⟩)] w fun e w' => e = .returned (.int .u32 s) ∧ w = w' := by
  have c0 : w.cell? ⟨g, 0, none⟩ = some (.int .u32 (s : Int)) := h.cell rfl
  clear h
  go_enter Try.func21, Try.ntmps21
  go_wp2_with fail
  go_ret
  exact ⟨rfl, rfl⟩

set_option maxHeartbeats 1000000 in
set_option maxRecDepth 100000 in
theorem digAdd_any (g s n : Nat) (v : Value) (xs : List Int) (w : World) (h : Dig w g s n) (hs : s < 4294967296) (hv : Sl w v xs) (hby : By xs) (hbig : xs.length ≤ 140737488355328) (hn : n + xs.length ≤ 9223372036854775807) :
    Calls Try.prog 19 #[.pointer (some ⟨g, 0, none⟩), v] w fun e w' => e = .returned (.int .i64 ((n + xs.length : Nat) : Int)) ∧ Hid (Dig w' g (more s (nats xs)) (n + xs.length)) ∧ Hid (Chg [g] w w') := by
  have c0 : w.cell? ⟨g, 0, none⟩ = some (.int .u32 (s : Int)) := h.cell rfl
  have hm := more_any s v xs w hs hv hby hbig
  obtain ⟨ao, c, rfl⟩ := hv.slice
  have HV := Lib.hid hv
  have HD := Lib.hid h
  clear h hv hby
  generalize more s (nats xs) = m at *
  go_enter Try.func19, Try.ntmps19
  go_wp2_with fail
  refine hm.mono ?_
  rintro e w1 ⟨rfl, D⟩
  replace HD := Lib.hid (show Dig w1 g s n from HD.out.chg D.out (by simp))
  have f0 := HD.out.free 0
  have f1 := HD.out.free 1
  have c0 : w1.cell? ⟨g, 0, none⟩ = some (.int .u32 (s : Int)) := HD.out.cell rfl
  have c1 : w1.cell? ⟨g, 1, none⟩ = some (.int .i64 (n : Int)) := HD.out.cell rfl
  go_wp2_with fail
  go_ret
  have e : ((n + xs.length : Nat) : Int) = (n : Int) + (xs.length : Int) := by simp
  refine ⟨by rw [e]; rfl, ?_, ((D.out.mono (by simp)).setCell (.inl (by simp)) _).setCell (.inl (by simp)) _⟩
  show Blk _ _ _ _
  rw [e]
  exact (Blk.set HD.out 0 (.int .u32 (m : Int))).set 1 (.int .i64 ((n : Int) + (xs.length : Int)))

end Go.Proofs.Ytaneaidipbhbkaa
