
/-
  The rest of the reader's calls. By an AI agent.
-/
import Derived.Test.YtnkdgmnmmmjgjaaRdNum
namespace Go.Proofs.Ytnkdgmnmmmjgjaa
open Go.RowKit

/-- A new reader, in memory of its own. -/
def Red (w : World) (xs : List Int) (e : Ending) (w' : World) : Prop := ∃ b v, e = .returned (.pointer (some ⟨b, 0, none⟩)) ∧ Rd w' b v ⟨xs, 0, 0, 0⟩ ∧ Chg [] w w' ∧ w.heap.size ≤ b ∧ (∀ k, v.ownBlock = some k → w.heap.size ≤ k ∧ k < w'.heap.size)

set_option maxHeartbeats 400000 in
theorem read_any (v : Value) (xs : List Int) (w : World) (h : Sl w v xs) (hbig : xs.length ≤ 140737488355328) (hby : By xs) :
    Calls Try.prog 72 #[v] w (Red w xs) := by
  have hcl := clone_any v xs w h hbig
  have HY := Lib.hid hby
  clear h hby
  go_enter Try.func72, Try.ntmps72
  go_wp2_with (go_at_call 30; refine hcl.mono ?_; rintro e w1 ⟨v1, rfl, hv, hc⟩; obtain ⟨ao, c, rfl⟩ := (Sl.owned hv).slice)
  go_ret
  have hb := Blk.made w1 [.slice ao xs.length c, .int .i64 0, .int .u16 0, .int .i64 0] 129
  have hsl := Sl.owned hv
  refine ⟨w1.heap.size, .slice ao xs.length c, rfl, ⟨by simpa using hb, ?_, ?_, Nat.zero_le _, hbig, HY.out, .inl rfl, Nat.zero_le _, ?_⟩, hc.alloc _, hc.size, fun k hk => ⟨(hv.lt k hk).1, by have := (hv.lt k hk).2; simp; omega⟩⟩
  · exact hsl.chg (s := []) ((Chg.refl _ _).alloc _) (by simp)
  · intro k hk e
    have := (hv.lt k hk).2
    omega
  · intro ao n c he
    obtain ⟨rfl, rfl, rfl⟩ : _ = ao ∧ xs.length = n ∧ _ = c := by simpa using he
    rcases hv.2 with ⟨h1, h2⟩ | ⟨g, cap, cur, h1, _, _, h2, _⟩
    · simp at h1; omega
    · simp at h1; omega

/-- The bytes that Raw hands out are the asker's own. -/
def Raws (w : World) (b : Nat) (v : Value) (s : RS) (n : Nat) (e : Ending) (w' : World) : Prop :=
  ∃ rv, e = .returned rv ∧ w'.ownsRow w.heap.size 5 1 rv (s.got n).length ((s.got n).map (Value.int .u8)) ∧ Rd w' b v (s.next n) ∧ Chg [b] w w'

theorem ownsRow_base {w : World} {B B' : Nat} {e : TypeId} {size : Nat} {v : Value} {n : Nat} {xs : List Value} (h : w.ownsRow B e size v n xs) (hb : B' ≤ B) : w.ownsRow B' e size v n xs := by
  refine ⟨h.1, ?_⟩
  rcases h.2 with h | ⟨g, cap, cur, h1, h2, h3⟩
  · exact .inl h
  · exact .inr ⟨g, cap, cur, h1, by omega, h3⟩

set_option maxHeartbeats 400000 in
theorem rawR_any (b : Nat) (v : Value) (s : RS) (n : Int) (w : World) (h : Rd w b v s) (hn1 : n ≤ 9223372036854775807) :
    Calls Try.prog 73 #[.pointer (some ⟨b, 0, none⟩), .int .i64 n] w (Raws w b v s n.toNat) := by
  have hnext := next_any b v s n w h hn1
  have hcl := fun rv w1 (k : Sl w1 rv (s.got n.toNat)) => clone_any rv (s.got n.toNat) w1 k (by
    have h1 := h.top
    have h2 := h.le
    unfold RS.got
    by_cases h0 : s.bad = 0
    · rw [if_pos h0]
      by_cases h3 : s.pos + n.toNat ≤ s.xs.length
      · rw [if_pos h3]; simp; omega
      · rw [if_neg h3]; simp
    · rw [if_neg h0]; simp)
  have hlt := h.pb.lt
  clear h
  go_enter Try.func73, Try.ntmps73
  go_wp2_with (first
    | (go_at_call 78; refine hnext.mono ?_; rintro e w1 ⟨rv, rfl, hsl, hob, hrd, hch⟩)
    | (go_at_call 30; refine (hcl rv w1 hsl).mono ?_; rintro e w2 ⟨v2, rfl, hv2, hc2⟩))
  go_ret
  exact ⟨v2, rfl, ownsRow_base hv2 hch.size, hrd.chg hc2 (by simp) (by simp), hch.trans (hc2.mono (by simp))⟩

theorem RS.got_bad {s : RS} {n : Nat} (h : s.got n ≠ []) : s.bad = 0 ∧ s.pos + n ≤ s.xs.length := by
  unfold RS.got at h
  by_cases h0 : s.bad = 0
  · rw [if_pos h0] at h
    by_cases h3 : s.pos + n ≤ s.xs.length
    · exact ⟨h0, h3⟩
    · rw [if_neg h3] at h; exact absurd rfl h
  · rw [if_neg h0] at h; exact absurd rfl h

end Go.Proofs.Ytnkdgmnmmmjgjaa
