/-
  The program's ring: what stands in memory, and the calls that only read. By an AI agent.
-/
import Derived.Test.YtkkjhlihionlkaaRgIter
namespace Go.Proofs.Ytkkjhlihionlkaa
open Go.RowKit

/-- A ring, in numbers. -/
structure Rg (S t u : Nat) : Prop where
  lo : 5 ≤ S
  hi : S ≤ 2048
  tail : t < S
  used : u ≤ S

/-- The ring at a block. -/
def RingB (w : World) (R S t u : Nat) : Prop := Blk w R 68 [.int .i64 (S : Int), .int .i64 (t : Int), .int .i64 (u : Int)]

/-- An answer: memory stays as it was, but for what is new. -/
def Says (w : World) (v : Value) (e : Ending) (w' : World) : Prop := e = .returned v ∧ Hid (Chg [] w w')

theorem Rg.head_lt {S t u : Nat} (h : Rg S t u) (i : Nat) : (t + i) % S < S := Nat.mod_lt _ (by have := h.lo; omega)

section
variable {S t u R : Nat} (h : Rg S t u) (w : World) (hb : RingB w R S t u)
include h hb

set_option maxHeartbeats 1000000 in
set_option maxRecDepth 100000 in
theorem place_any (i : Nat) (hi : i ≤ S) : Calls Try.prog 44 #[.pointer (some ⟨R, 0, none⟩), .int .i64 (i : Int)] w (Says w (.int .i64 (((t + i) % S : Nat) : Int))) := by
  have h1 := h.lo
  have h2 := h.hi
  have h3 := h.tail
  have c0 := hb.cell (j := 0) rfl
  have c1 := hb.cell (j := 1) rfl
  obtain ⟨a, ha⟩ : ∃ a, a = t + i := ⟨_, rfl⟩
  have e1 : (t : Int) + (i : Int) = (a : Int) := by omega
  obtain ⟨w1, w2⟩ := wrap_in (z := (a : Int)) (by omega) (by omega)
  have e2 : Int.tmod (a : Int) (S : Int) = ((a % S : Nat) : Int) := rfl
  have e3 : ¬ (S : Int) = 0 := by omega
  have hm : a % S < S := Nat.mod_lt _ (by omega)
  obtain ⟨m, hmm⟩ : ∃ m, m = a % S := ⟨_, rfl⟩
  rw [← ha, ← hmm]
  rw [← hmm] at e2 hm
  obtain ⟨w3, w4⟩ := wrap_in (z := (m : Int)) (by omega) (by omega)
  clear h hb h1 h2 h3 hi ha hm hmm
  generalize (a : Int) = A at *
  generalize (S : Int) = S' at *
  generalize (m : Int) = M at *
  generalize (t : Int) = t' at *
  generalize (i : Int) = i' at *
  go_enter Try.func44, Try.ntmps44
  go_wp2_with fail
  go_quiet (fail)
  go_wp2_with fail
  go_ret
  exact ⟨rfl, (Chg.refl _ w).drewN _⟩

set_option maxHeartbeats 1000000 in
set_option maxRecDepth 100000 in
theorem head_any : Calls Try.prog 14 #[.pointer (some ⟨R, 0, none⟩)] w (Says w (.int .i64 (((t + u) % S : Nat) : Int))) := by
  have c2 := hb.cell (j := 2) rfl
  have P := Lib.hid (place_any h w hb u h.used)
  clear h hb
  go_enter Try.func14, Try.ntmps14
  go_wp2_with (go_at_call 44; refine P.out.mono ?_; rintro e w' ⟨rfl, C⟩)
  go_ret
  exact ⟨rfl, C⟩

set_option maxHeartbeats 1000000 in
set_option maxRecDepth 100000 in
theorem free_any : Calls Try.prog 19 #[.pointer (some ⟨R, 0, none⟩)] w (Says w (.int .i64 ((S - u : Nat) : Int))) := by
  have h1 := h.hi
  have h2 := h.used
  have c0 := hb.cell (j := 0) rfl
  have c2 := hb.cell (j := 2) rfl
  have e1 : (S : Int) - (u : Int) = ((S - u : Nat) : Int) := by omega
  obtain ⟨w1, w2⟩ := wrap_in (z := ((S - u : Nat) : Int)) (by omega) (by omega)
  generalize ((S - u : Nat) : Int) = A at *
  generalize (S : Int) = S' at *
  generalize (u : Int) = u' at *
  clear h hb h1 h2
  go_enter Try.func19, Try.ntmps19
  go_wp2_with fail
  go_quiet (fail)
  go_wp2_with fail
  go_ret
  exact ⟨rfl, (Chg.refl _ w).drewN _⟩

set_option maxHeartbeats 1000000 in
theorem size_any : Calls Try.prog 22 #[.pointer (some ⟨R, 0, none⟩)] w (Says w (.int .i64 (S : Int))) := by
  have c0 := hb.cell (j := 0) rfl
  have _q := h.lo
  clear h hb _q
  go_enter Try.func22, Try.ntmps22
  go_wp2_with fail
  go_ret
  exact ⟨rfl, Chg.refl _ w⟩

set_option maxHeartbeats 1000000 in
theorem tail_any : Calls Try.prog 15 #[.pointer (some ⟨R, 0, none⟩)] w (Says w (.int .i64 (t : Int))) := by
  have c0 := hb.cell (j := 1) rfl
  have _q := h.lo
  clear h hb _q
  go_enter Try.func15, Try.ntmps15
  go_wp2_with fail
  go_ret
  exact ⟨rfl, Chg.refl _ w⟩

set_option maxHeartbeats 1000000 in
theorem used_any : Calls Try.prog 18 #[.pointer (some ⟨R, 0, none⟩)] w (Says w (.int .i64 (u : Int))) := by
  have c0 := hb.cell (j := 2) rfl
  have _q := h.lo
  clear h hb _q
  go_enter Try.func18, Try.ntmps18
  go_wp2_with fail
  go_ret
  exact ⟨rfl, Chg.refl _ w⟩

omit h hb in
set_option maxHeartbeats 1000000 in
theorem within_any (n a b : Int) : Calls Try.prog 25 #[.int .i64 n, .int .i64 a, .int .i64 b] w fun e w' => e = .returned (.bool (decide (a ≤ n) && decide (n ≤ b))) ∧ w = w' := by
  go_enter Try.func25, Try.ntmps25
  by_cases h1 : a ≤ n
  · by_cases h2 : n ≤ b
    · go_wp2_with fail
      go_ret
      exact ⟨by simp [h1, h2], rfl⟩
    · go_wp2_with fail
      go_ret
      exact ⟨by simp [h1, h2], rfl⟩
  · go_wp2_with fail
    go_ret
    exact ⟨by rw [show decide (a ≤ n) = false from decide_eq_false (by omega)]; rfl, rfl⟩

set_option maxHeartbeats 1000000 in
set_option maxRecDepth 100000 in
theorem at_in (i : Nat) (hi : i < S) : Calls Try.prog 24 #[.pointer (some ⟨R, 0, none⟩), .int .i64 (i : Int)] w (Says w (.tuple #[.int .i64 (((t + i) % S : Nat) : Int), .int .u16 0])) := by
  have h1 := h.lo
  have h2 := h.hi
  have c0 := hb.cell (j := 0) rfl
  have P := Lib.hid (place_any h w hb i (by omega))
  have e1 : (S : Int) - 1 = ((S - 1 : Nat) : Int) := by omega
  obtain ⟨w1, w2⟩ := wrap_in (z := ((S - 1 : Nat) : Int)) (by omega) (by omega)
  have T : Hid ((decide ((0 : Int) ≤ (i : Int)) && decide ((i : Int) ≤ ((S - 1 : Nat) : Int))) = true) := by
    show _ = true
    simp; omega
  clear h hb h1 h2 hi
  go_enter Try.func24, Try.ntmps24
  go_wp2_with (first
    | (go_at_call 44; refine P.out.mono ?_; rintro e w' ⟨rfl, C⟩)
    | (go_at_call 25; refine (within_any _ _ _ _).mono ?_; simp only [T.out]; rintro e w' ⟨rfl, rfl⟩))
  go_ret2
  exact ⟨rfl, C⟩

set_option maxHeartbeats 1000000 in
set_option maxRecDepth 100000 in
theorem at_out (i : Int) (hi : i < 0 ∨ (S : Int) ≤ i) : Calls Try.prog 24 #[.pointer (some ⟨R, 0, none⟩), .int .i64 i] w (Says w (.tuple #[.int .i64 0, .int .u16 3])) := by
  have h1 := h.lo
  have h2 := h.hi
  have c0 := hb.cell (j := 0) rfl
  have e1 : (S : Int) - 1 = ((S - 1 : Nat) : Int) := by omega
  obtain ⟨w1, w2⟩ := wrap_in (z := ((S - 1 : Nat) : Int)) (by omega) (by omega)
  have T : Hid ((decide ((0 : Int) ≤ i) && decide (i ≤ ((S - 1 : Nat) : Int))) = false) := by
    show _ = false
    simp; omega
  clear h hb h1 h2 hi
  go_enter Try.func24, Try.ntmps24
  go_wp2_with (first
    | (go_at_call 25; refine (within_any _ _ _ _).mono ?_; simp only [T.out]; rintro e w' ⟨rfl, rfl⟩))
  go_ret2
  exact ⟨rfl, Chg.refl _ _⟩

end

set_option maxHeartbeats 1000000 in
set_option maxRecDepth 100000 in
theorem new_ok {S t u : Nat} (h : Rg S t u) (w : World) : Calls Try.prog 8 #[.int .i64 (S : Int), .int .i64 (t : Int), .int .i64 (u : Int)] w fun e w' =>
    e = .returned (.tuple #[.pointer (some ⟨w.heap.size, 0, none⟩), .int .u16 0]) ∧ Hid (RingB w' w.heap.size S t u) ∧ Hid (Chg [] w w') := by
  have h1 := h.lo
  have h2 := h.hi
  have h3 := h.tail
  have h4 := h.used
  have e1 : (S : Int) - 1 = ((S - 1 : Nat) : Int) := by omega
  obtain ⟨w1, w2⟩ := wrap_in (z := ((S - 1 : Nat) : Int)) (by omega) (by omega)
  have T1 : Hid ((decide ((5 : Int) ≤ (S : Int)) && decide ((S : Int) ≤ 2048)) = true) := by
    show _ = true
    simp; omega
  have T2 : Hid ((decide ((0 : Int) ≤ (t : Int)) && decide ((t : Int) ≤ ((S - 1 : Nat) : Int))) = true) := by
    show _ = true
    simp; omega
  have T3 : Hid ((decide ((0 : Int) ≤ (u : Int)) && decide ((u : Int) ≤ (S : Int))) = true) := by
    show _ = true
    simp; omega
  clear h h1 h2 h3 h4
  go_enter Try.func8, Try.ntmps8
  go_wp2_with (go_at_call 25; refine (within_any _ _ _ _).mono ?_; simp only [T1.out, T2.out, T3.out]; rintro e w' ⟨rfl, rfl⟩)
  go_ret2
  exact ⟨rfl, Blk.made w [.int .i64 (S : Int), .int .i64 (t : Int), .int .i64 (u : Int)] 68, (Chg.refl _ _).alloc _⟩

/-- No ring: what New says. -/
def NoRing (w : World) (e : Ending) (w' : World) : Prop := e = .returned (.tuple #[.pointer none, .int .u16 1]) ∧ w = w'

set_option maxHeartbeats 1000000 in
set_option maxRecDepth 100000 in
theorem new_size (s t u : Int) (w : World) (hs : s < 5 ∨ 2048 < s) : Calls Try.prog 8 #[.int .i64 s, .int .i64 t, .int .i64 u] w (NoRing w) := by
  have T1 : Hid ((decide ((5 : Int) ≤ s) && decide (s ≤ 2048)) = false) := by
    show _ = false
    simp; omega
  clear hs
  go_enter Try.func8, Try.ntmps8
  go_wp2_with (go_at_call 25; refine (within_any _ _ _ _).mono ?_; simp only [T1.out]; rintro e w' ⟨rfl, rfl⟩)
  go_ret2
  exact ⟨rfl, rfl⟩

set_option maxHeartbeats 1000000 in
set_option maxRecDepth 100000 in
theorem new_tail (s t u : Int) (w : World) (hs : 5 ≤ s ∧ s ≤ 2048) (ht : t < 0 ∨ s ≤ t) : Calls Try.prog 8 #[.int .i64 s, .int .i64 t, .int .i64 u] w (NoRing w) := by
  have T1 : Hid ((decide ((5 : Int) ≤ s) && decide (s ≤ 2048)) = true) := by
    show _ = true
    simp; omega
  obtain ⟨s', hs'⟩ : ∃ s', s' = s - 1 := ⟨_, rfl⟩
  obtain ⟨w1, w2⟩ := wrap_in (z := s') (by omega) (by omega)
  have e1 : s - 1 = s' := hs'.symm
  have T2 : Hid ((decide ((0 : Int) ≤ t) && decide (t ≤ s')) = false) := by
    show _ = false
    simp; omega
  clear hs ht hs'
  go_enter Try.func8, Try.ntmps8
  go_wp2_with (go_at_call 25; refine (within_any _ _ _ _).mono ?_; simp only [T1.out, T2.out]; rintro e w' ⟨rfl, rfl⟩)
  go_ret2
  exact ⟨rfl, rfl⟩

set_option maxHeartbeats 1000000 in
set_option maxRecDepth 100000 in
theorem new_used (s t u : Int) (w : World) (hs : 5 ≤ s ∧ s ≤ 2048) (ht : 0 ≤ t ∧ t < s) (hu : u < 0 ∨ s < u) : Calls Try.prog 8 #[.int .i64 s, .int .i64 t, .int .i64 u] w (NoRing w) := by
  have T1 : Hid ((decide ((5 : Int) ≤ s) && decide (s ≤ 2048)) = true) := by
    show _ = true
    simp; omega
  obtain ⟨s', hs'⟩ : ∃ s', s' = s - 1 := ⟨_, rfl⟩
  obtain ⟨w1, w2⟩ := wrap_in (z := s') (by omega) (by omega)
  have e1 : s - 1 = s' := hs'.symm
  have T2 : Hid ((decide ((0 : Int) ≤ t) && decide (t ≤ s')) = true) := by
    show _ = true
    simp; omega
  have T3 : Hid ((decide ((0 : Int) ≤ u) && decide (u ≤ s)) = false) := by
    show _ = false
    simp; omega
  clear hs ht hs' hu
  go_enter Try.func8, Try.ntmps8
  go_wp2_with (go_at_call 25; refine (within_any _ _ _ _).mono ?_; simp only [T1.out, T2.out, T3.out]; rintro e w' ⟨rfl, rfl⟩)
  go_ret2
  exact ⟨rfl, rfl⟩

/-- Either there is a ring, or New says that there is none. -/
theorem new_any (s t u : Int) : (∃ S T U : Nat, Rg S T U ∧ s = S ∧ t = T ∧ u = U) ∨ ((s < 5 ∨ 2048 < s ∨ t < 0 ∨ s ≤ t ∨ u < 0 ∨ s < u) ∧ ∀ w, Calls Try.prog 8 #[.int .i64 s, .int .i64 t, .int .i64 u] w (NoRing w)) := by
  by_cases hs : 5 ≤ s ∧ s ≤ 2048
  · by_cases ht : 0 ≤ t ∧ t < s
    · by_cases hu : 0 ≤ u ∧ u ≤ s
      · exact .inl ⟨s.toNat, t.toNat, u.toNat, ⟨by omega, by omega, by omega, by omega⟩, by omega, by omega, by omega⟩
      · exact .inr ⟨by omega, fun w => new_used s t u w hs ht (by omega)⟩
    · exact .inr ⟨by omega, fun w => new_tail s t u w hs (by omega)⟩
  · exact .inr ⟨by omega, fun w => new_size s t u w (by omega)⟩

end Go.Proofs.Ytkkjhlihionlkaa
