/-
  The packer's room and the numbers it takes: what each call of the package le does to memory. By an AI agent.
-/
import Derived.Test.YtffpjefecmkfmaaRows
import Derived.Test.YtffpjefecmkfmaaBMem
import Derived.WalkKit
import Derived.WalkSpells
import Derived.WalkLawsBesides
import Derived.Deep.QuietTactic
import Derived.BigQuiet
import Derived.Lib.Hide
namespace Go.Proofs.Ytffpjefecmkfmaa
open Go.RowKit

set_option maxHeartbeats 400000 in
theorem left_any (b g at_ size : Nat) (w : World) (hs : size ≤ 4096) (ha : at_ ≤ size)
    (h0 : w.cell? ⟨b, 0, none⟩ = some (.slice (some ⟨g, 0, none⟩) size size))
    (h1 : w.cell? ⟨b, 1, none⟩ = some (.int .i64 at_)) :
    Calls Try.prog 90 #[.pointer (some ⟨b, 0, none⟩)] w fun e w' => e = .returned (.int .i64 ((size : Int) - at_)) ∧ ∃ q, w' = w.drewN q := by
  go_enter Try.func90, Try.ntmps90
  go_wp2
  go_quiet (fail)
  go_wp2
  go_ret
  exact ⟨rfl, _, rfl⟩

set_option maxHeartbeats 400000 in
theorem room_ok (b g at_ size n : Nat) (w : World) (hs : size ≤ 4096) (ha : at_ + n ≤ size)
    (h0 : w.cell? ⟨b, 0, none⟩ = some (.slice (some ⟨g, 0, none⟩) size size))
    (h1 : w.cell? ⟨b, 1, none⟩ = some (.int .i64 at_))
    (h2 : w.cell? ⟨b, 2, none⟩ = some (.int .u16 0))
    (f1 : w.frozen? ⟨b, 1, none⟩ = false) :
    Calls Try.prog 86 #[.pointer (some ⟨b, 0, none⟩), .int .i64 n] w fun e w' => e = .returned (.slice (if size = at_ then some ⟨g, 0, none⟩ else some ⟨g, at_, none⟩) n (size - at_)) ∧ ∃ q, w' = (w.setCell ⟨b, 1, none⟩ (.int .i64 ((at_ : Int) + n))).drewN q := by
  go_enter Try.func86, Try.ntmps86
  go_wp2_with (go_at_call 90; refine (left_any b g at_ size _ hs (by omega) h0 h1).mono ?_; rintro e w' ⟨rfl, q, rfl⟩)
  go_quiet (fail)
  go_wp2
  all_goals go_ret
  all_goals exact ⟨rfl, q + nq, by simp only [World.drewN, World.setCell, Nat.add_assoc]⟩

set_option maxHeartbeats 400000 in
theorem room_full (b g at_ size : Nat) (n : Int) (w : World) (hs : size ≤ 4096) (ha : at_ ≤ size) (hn : (size : Int) < at_ + n) (hn2 : n ≤ 9223372036854775807)
    (h0 : w.cell? ⟨b, 0, none⟩ = some (.slice (some ⟨g, 0, none⟩) size size))
    (h1 : w.cell? ⟨b, 1, none⟩ = some (.int .i64 at_))
    (h2 : w.cell? ⟨b, 2, none⟩ = some (.int .u16 0))
    (f2 : w.frozen? ⟨b, 2, none⟩ = false) :
    Calls Try.prog 86 #[.pointer (some ⟨b, 0, none⟩), .int .i64 n] w fun e w' => e = .returned (.slice none 0 0) ∧ ∃ q, w' = (w.setCell ⟨b, 2, none⟩ (.int .u16 10)).drewN q := by
  have hn0 : 0 < n := by omega
  go_enter Try.func86, Try.ntmps86
  go_wp2_with (go_at_call 90; refine (left_any b g at_ size _ hs (by omega) h0 h1).mono ?_; rintro e w' ⟨rfl, q, rfl⟩)
  go_ret
  exact ⟨rfl, q, by simp only [World.drewN, World.setCell]⟩

set_option maxHeartbeats 400000 in
/-- Nothing is asked: a count that is not above 0. -/
theorem room_none (b g at_ size : Nat) (n : Int) (w : World) (hs : size ≤ 4096) (ha : at_ ≤ size) (hn : n < 0)
    (h0 : w.cell? ⟨b, 0, none⟩ = some (.slice (some ⟨g, 0, none⟩) size size))
    (h1 : w.cell? ⟨b, 1, none⟩ = some (.int .i64 at_))
    (h2 : w.cell? ⟨b, 2, none⟩ = some (.int .u16 0))
    (f1 : w.frozen? ⟨b, 1, none⟩ = false) :
    Calls Try.prog 86 #[.pointer (some ⟨b, 0, none⟩), .int .i64 n] w fun e w' => e = .returned (.slice (if size = at_ then some ⟨g, 0, none⟩ else some ⟨g, at_, none⟩) 0 (size - at_)) ∧ ∃ q, w' = (w.setCell ⟨b, 1, none⟩ (.int .i64 (at_ : Int))).drewN q := by
  go_enter Try.func86, Try.ntmps86
  go_wp2_with (go_at_call 90; refine (left_any b g at_ size _ hs (by omega) h0 h1).mono ?_; rintro e w' ⟨rfl, q, rfl⟩)
  go_quiet (fail)
  go_wp2
  all_goals go_ret
  all_goals exact ⟨rfl, q + nq, by simp only [World.drewN, World.setCell, Nat.add_assoc]⟩

set_option maxHeartbeats 400000 in
/-- Behind an error nothing happens. -/
theorem room_bad (b : Nat) (bad : Int) (n : Int) (w : World) (hb : (bad != 0) = true)
    (h2 : w.cell? ⟨b, 2, none⟩ = some (.int .u16 bad)) :
    Calls Try.prog 86 #[.pointer (some ⟨b, 0, none⟩), .int .i64 n] w fun e w' => e = .returned (.slice none 0 0) ∧ w' = w := by
  go_enter Try.func86, Try.ntmps86
  go_wp2_with fail
  all_goals go_ret
  all_goals exact ⟨rfl, rfl⟩
end Go.Proofs.Ytffpjefecmkfmaa
