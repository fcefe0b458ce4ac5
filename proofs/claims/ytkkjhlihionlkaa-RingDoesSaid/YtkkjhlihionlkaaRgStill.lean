/-
  What only reads, of both rings: memory stays as it is. 'stands'. By an AI agent.
-/
import Derived.Test.YtkkjhlihionlkaaRefRing
namespace Go.Proofs.Ytkkjhlihionlkaa
open Go.RowKit

/-- An answer, and memory is as it was. -/
def Still (w : World) (v : Value) (e : Ending) (w' : World) : Prop := e = .returned v ∧ ∃ q, w' = w.drewN q

section
variable {S t u R : Nat} (h : Rg S t u) (w : World) (hb : RingB w R S t u)
include h hb

set_option maxHeartbeats 1000000 in
set_option maxRecDepth 100000 in
theorem place_still (i : Nat) (hi : i ≤ S) : Calls Try.prog 44 #[.pointer (some ⟨R, 0, none⟩), .int .i64 (i : Int)] w (Still w (.int .i64 (((t + i) % S : Nat) : Int))) := by
  have h1 := h.lo
  have h2 := h.hi
  have h3 := h.tail
  have c0 := hb.cell (j := 0) rfl
  have c1 := hb.cell (j := 1) rfl
  obtain ⟨a, ha⟩ : ∃ a, a = t + i := ⟨_, rfl⟩
  have e1 : (t : Int) + (i : Int) = (a : Int) := by omega
  obtain ⟨w1, w2⟩ := wrap_in (z := (a : Int)) (by omega) (by omega)
  have e2 : Int.tmod (a : Int) (S : Int) = ((a % S : Nat) : Int) := rfl
  have e3 : ¬ (S : Int) = 0 := by omega
  have hm : a % S < S := Nat.mod_lt _ (by omega)
  obtain ⟨m, hmm⟩ : ∃ m, m = a % S := ⟨_, rfl⟩
  rw [← ha, ← hmm]
  rw [← hmm] at e2 hm
  obtain ⟨w3, w4⟩ := wrap_in (z := (m : Int)) (by omega) (by omega)
  clear h hb h1 h2 h3 hi ha hm hmm
  generalize (a : Int) = A at *
  generalize (S : Int) = S' at *
  generalize (m : Int) = M at *
  generalize (t : Int) = t' at *
  generalize (i : Int) = i' at *
  go_enter Try.func44, Try.ntmps44
  go_wp2_with fail
  go_quiet (fail)
  go_wp2_with fail
  go_ret
  exact ⟨rfl, _, rfl⟩

set_option maxHeartbeats 1000000 in
set_option maxRecDepth 100000 in
theorem head_still : Calls Try.prog 14 #[.pointer (some ⟨R, 0, none⟩)] w (Still w (.int .i64 (((t + u) % S : Nat) : Int))) := by
  have c2 := hb.cell (j := 2) rfl
  have P := Lib.hid (place_still h w hb u h.used)
  clear h hb
  go_enter Try.func14, Try.ntmps14
  go_wp2_with (go_at_call 44; refine P.out.mono ?_; rintro e w' ⟨rfl, q, rfl⟩)
  go_ret
  exact ⟨rfl, q, rfl⟩

set_option maxHeartbeats 1000000 in
set_option maxRecDepth 100000 in
theorem free_still : Calls Try.prog 19 #[.pointer (some ⟨R, 0, none⟩)] w (Still w (.int .i64 ((S - u : Nat) : Int))) := by
  have h1 := h.hi
  have h2 := h.used
  have c0 := hb.cell (j := 0) rfl
  have c2 := hb.cell (j := 2) rfl
  have e1 : (S : Int) - (u : Int) = ((S - u : Nat) : Int) := by omega
  obtain ⟨w1, w2⟩ := wrap_in (z := ((S - u : Nat) : Int)) (by omega) (by omega)
  generalize ((S - u : Nat) : Int) = A at *
  generalize (S : Int) = S' at *
  generalize (u : Int) = u' at *
  clear h hb h1 h2
  go_enter Try.func19, Try.ntmps19
  go_wp2_with fail
  go_quiet (fail)
  go_wp2_with fail
  go_ret
  exact ⟨rfl, _, rfl⟩

set_option maxHeartbeats 1000000 in
theorem size_still : Calls Try.prog 22 #[.pointer (some ⟨R, 0, none⟩)] w (Still w (.int .i64 (S : Int))) := by
  have c0 := hb.cell (j := 0) rfl
  have _q := h.lo
  clear h hb _q
  go_enter Try.func22, Try.ntmps22
  go_wp2_with fail
  go_ret
  exact ⟨rfl, 0, rfl⟩

set_option maxHeartbeats 1000000 in
theorem tail_still : Calls Try.prog 15 #[.pointer (some ⟨R, 0, none⟩)] w (Still w (.int .i64 (t : Int))) := by
  have c0 := hb.cell (j := 1) rfl
  have _q := h.lo
  clear h hb _q
  go_enter Try.func15, Try.ntmps15
  go_wp2_with fail
  go_ret
  exact ⟨rfl, 0, rfl⟩

set_option maxHeartbeats 1000000 in
theorem used_still : Calls Try.prog 18 #[.pointer (some ⟨R, 0, none⟩)] w (Still w (.int .i64 (u : Int))) := by
  have c0 := hb.cell (j := 2) rfl
  have _q := h.lo
  clear h hb _q
  go_enter Try.func18, Try.ntmps18
  go_wp2_with fail
  go_ret
  exact ⟨rfl, 0, rfl⟩

end

section
variable {S t u P : Nat} (h : Rg S t u) (w : World) (hb : RefB w P S t u)
include h hb

set_option maxHeartbeats 1000000 in
set_option maxRecDepth 100000 in
theorem refHead_still : Calls Try.prog 31 #[.pointer (some ⟨P, 0, none⟩)] w (Still w (.int .i64 (((t + u) % S : Nat) : Int))) := by
  have h1 := h.lo
  have h2 := h.hi
  have h3 := h.tail
  have h4 := h.used
  have c0 := hb.cell (j := 0) rfl
  have c1 := hb.cell (j := 1) rfl
  have c2 := hb.cell (j := 2) rfl
  obtain ⟨a, ha⟩ : ∃ a, a = t + u := ⟨_, rfl⟩
  have e1 : (t : Int) + (u : Int) = (a : Int) := by omega
  obtain ⟨w1, w2⟩ := wrap_in (z := (a : Int)) (by omega) (by omega)
  have e2 : Int.tmod (a : Int) (S : Int) = ((a % S : Nat) : Int) := rfl
  have e3 : ¬ (S : Int) = 0 := by omega
  have hm : a % S < S := Nat.mod_lt _ (by omega)
  obtain ⟨m, hmm⟩ : ∃ m, m = a % S := ⟨_, rfl⟩
  rw [← ha, ← hmm]
  rw [← hmm] at e2 hm
  obtain ⟨w3, w4⟩ := wrap_in (z := (m : Int)) (by omega) (by omega)
  clear h hb h1 h2 h3 h4 ha hm hmm
  generalize (a : Int) = A at *
  generalize (S : Int) = S' at *
  generalize (m : Int) = M at *
  generalize (t : Int) = t' at *
  generalize (u : Int) = u' at *
  go_enter Try.func31, Try.ntmps31
  go_wp2_with fail
  go_quiet (fail)
  go_wp2_with fail
  go_ret
  exact ⟨rfl, _, rfl⟩

end

set_option maxHeartbeats 4000000 in
set_option maxRecDepth 100000 in
theorem stands_any {S t u R P : Nat} (h : Rg S t u) (w : World) (hb : RingB w R S t u) (hp : RefB w P S t u) :
    Calls Try.prog 12 #[.pointer (some ⟨R, 0, none⟩), .pointer (some ⟨P, 0, none⟩)] w (Still w (.bool true)) := by
  have c0 := hp.cell (j := 0) rfl
  have c1 := hp.cell (j := 1) rfl
  have c2 := hp.cell (j := 2) rfl
  have RB : Hid (∀ q, RingB (w.drewN q) R S t u) := fun q => hb.chg (s := []) ((Chg.refl _ _).drewN q) (by simp)
  have PB : Hid (∀ q, RefB (w.drewN q) P S t u) := fun q => hp.chg (s := []) ((Chg.refl _ _).drewN q) (by simp)
  have a1 := Lib.hid (fun q => size_still h (w.drewN q) (RB.out q))
  have a2 := Lib.hid (fun q => tail_still h (w.drewN q) (RB.out q))
  have a3 := Lib.hid (fun q => used_still h (w.drewN q) (RB.out q))
  have a4 := Lib.hid (fun q => head_still h (w.drewN q) (RB.out q))
  have a5 := Lib.hid (fun q => refHead_still h (w.drewN q) (PB.out q))
  have a6 := Lib.hid (fun q => free_still h (w.drewN q) (RB.out q))
  have h1 := h.hi
  have h2 := h.used
  have e1 : (S : Int) - (u : Int) = ((S - u : Nat) : Int) := by omega
  obtain ⟨w1, w2⟩ := wrap_in (z := ((S - u : Nat) : Int)) (by omega) (by omega)
  generalize ((t + u) % S : Nat) = M at *
  generalize (S - u : Nat) = A at *
  generalize (S : Int) = S' at *
  generalize (u : Int) = u' at *
  generalize (t : Int) = t' at *
  generalize (A : Int) = A' at *
  generalize (M : Int) = M' at *
  clear h hb hp h1 h2 RB PB
  go_enter Try.func12, Try.ntmps12
  go_wp2_with fail
  go_quiet (first
    | (go_at_call 22; exact Calls.quiet_of (a1.out _))
    | (go_at_call 15; exact Calls.quiet_of (a2.out _))
    | (go_at_call 18; exact Calls.quiet_of (a3.out _))
    | (go_at_call 14; exact Calls.quiet_of (a4.out _))
    | (go_at_call 31; exact Calls.quiet_of (a5.out _))
    | (go_at_call 19; exact Calls.quiet_of (a6.out _)))
  go_wp2_with fail
  go_ret
  exact ⟨rfl, _, rfl⟩

end Go.Proofs.Ytkkjhlihionlkaa
