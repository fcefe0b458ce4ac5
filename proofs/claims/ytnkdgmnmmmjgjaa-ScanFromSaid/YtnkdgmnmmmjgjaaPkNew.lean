
/-
  A packer's beginning, its bytes, and what is put by the slice. By an AI agent.
-/
import Derived.Test.YtnkdgmnmmmjgjaaPkPut
import Derived.Test.YtnkdgmnmmmjgjaaClone
namespace Go.Proofs.Ytnkdgmnmmmjgjaa
open Go.RowKit

/-- A new packer, in memory of its own. -/
def Newed (w : World) (n : Nat) (e : Ending) (w' : World) : Prop := ∃ b g, e = .returned (.tuple #[.pointer (some ⟨b, 0, none⟩), .int .u16 0]) ∧ Pk w' b g ⟨List.replicate n 0, 0, 0⟩ ∧ Chg [] w w' ∧ w.heap.size ≤ b ∧ w.heap.size ≤ g ∧ b < w'.heap.size ∧ g < w'.heap.size

set_option maxHeartbeats 400000 in
set_option maxRecDepth 100000 in
theorem new_ok (n : Nat) (w : World) (hn : n ≤ 4096) :
    Calls Try.prog 52 #[.int .i64 n] w (Newed w n) := by
  obtain ⟨i0, hi, hz0, hz1, hz2⟩ := info_parts info_u8
  go_enter Try.func52, Try.ntmps52
  go_wp2_with (at_make; refine wpList_make_full _ rfl _ _ 23 rfl w.heap.size 5 i0 (.int .u8 0) 1 Try.underlying23 hi hz0 hz1 .i64 .i64 _ _ n rfl rfl rfl rfl (by rw [hz2]; omega) (by unfold maxLen; omega) (Nat.le_refl _) ?_; intro w1 hown hgrow)
  go_ret2
  obtain ⟨hb, hg⟩ := Blk.owned hown
  rw [made_replicate _ _ rfl] at hb
  refine ⟨w1.heap.size, w.heap.size, rfl, ⟨?_, ?_, ?_, Nat.zero_le _, ?_, By.replicate _ (by decide) (by decide), .inl rfl⟩, ((Chg.refl _ w).grown hgrow (by intro k hk; cases hk)).alloc _, hgrow.size, Nat.le_refl _, by simp, by have := hgrow.size; simp; omega⟩
  · have := Blk.made w1 [.slice (some ⟨w.heap.size, 0, none⟩) n n, .int .i64 0, .int .u16 0] 115
    simpa using this
  · have := hb.alloc (.cells #[.slice (some ⟨w.heap.size, 0, none⟩) n n, .int .i64 0, .int .u16 0] 115)
    simpa using this
  · have := hb.lt
    intro e
    omega
  · simpa using hn

/-- What Bytes tells. -/
def Tells (w : World) (s : PS) (e : Ending) (w' : World) : Prop :=
  (s.bad ≠ 0 ∧ e = .returned (.tuple #[.slice none 0 0, .int .u16 s.bad]) ∧ Chg [] w w') ∨
  (s.bad = 0 ∧ ∃ v, e = .returned (.tuple #[v, .int .u16 0]) ∧ w'.ownsRow w.heap.size 5 1 v s.bs.length (s.bs.map (Value.int .u8)) ∧ Chg [] w w')

theorem Pk.sl {w : World} {b g : Nat} {s : PS} (h : Pk w b g s) : Sl w (.slice (some ⟨g, 0, none⟩) s.bs.length s.bs.length) s.bs :=
  .inr ⟨g, 0, _, rfl, h.pg.lt, fun j hj => h.pg.cell (by simp [List.getD, List.getElem?_eq_getElem hj])⟩

set_option maxHeartbeats 400000 in
theorem bytes_any (b g : Nat) (s : PS) (w : World) (h : Pk w b g s) :
    Calls Try.prog 56 #[.pointer (some ⟨b, 0, none⟩)] w (Tells w s) := by
  have h0 := h.c0
  have h2 := h.c2
  have hcl := clone_any _ _ w h.sl (by have := h.top; omega)
  clear h
  by_cases hb : s.bad = 0
  · rw [hb] at h2
    have HB := Lib.hid hb
    clear hb
    go_enter Try.func56, Try.ntmps56
    go_wp2_with (go_at_call 30; refine hcl.mono ?_; rintro e w' ⟨v, rfl, hv, hc⟩)
    go_ret2
    exact .inr ⟨HB.out, v, rfl, hv, hc⟩
  · have hbb : (s.bad != 0) = true := by simpa using hb
    have HB := Lib.hid hb
    clear hb hcl
    go_enter Try.func56, Try.ntmps56
    go_wp2_with fail
    go_quiet (fail)
    go_wp2_with fail
    go_ret2
    exact .inl ⟨HB.out, rfl, (Chg.refl _ _).drewN _⟩

end Go.Proofs.Ytnkdgmnmmmjgjaa
