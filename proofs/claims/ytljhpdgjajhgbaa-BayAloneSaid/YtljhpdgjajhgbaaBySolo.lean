/-
  A bay whose first slot has a disk that is not worn: what is done with that slot. No function of the program is named here. By an AI agent.
-/
import Derived.Test.YtljhpdgjajhgbaaByMath
namespace Go.Proofs.Ytljhpdgjajhgbaa
open Go.RowKit
theorem Dk.w_bad (d : Dk) (a : Int) (b : List Nat) : (d.write a b).bad = d.bad := by unfold Dk.write; split <;> rfl
theorem Dk.w_last (d : Dk) (a : Int) (b : List Nat) : (d.write a b).last = d.last := by unfold Dk.write; split <;> rfl

namespace Bay

def solo (d : Dk) (s : List Slot) (r w f : Nat) : Bay := ⟨⟨some ⟨d, none⟩, none, none⟩ :: s, false, none, r, w, f⟩
def gone (x : Slot) (s : List Slot) (r w f : Nat) : Bay := ⟨x :: s, false, none, r, w, f⟩

theorem is_zero (b : Bay) (h : 0 < b.slots.length) : b.is 0 = true := is_nat b (s := 0) h

theorem solo_is (d : Dk) (s : List Slot) (r w f : Nat) : (solo d s r w f).is 0 = true := is_zero _ (by simp [solo])

theorem solo_dev (d : Dk) (s : List Slot) (r w f : Nat) : (solo d s r w f).dev 0 = some ⟨d, none⟩ := by
  unfold dev
  rw [solo_is]
  rfl

theorem solo_start (d : Dk) (s : List Slot) (r w f : Nat) : (solo d s r w f).startErr 0 = 0 := by
  unfold startErr
  rw [solo_is, solo_dev]
  rfl

theorem solo_asked (d : Dk) (s : List Slot) (r w f : Nat) : (solo d s r w f).asked 0 = ⟨d, none⟩ := by
  unfold asked
  rw [solo_dev]
  rfl

theorem solo_write (d : Dk) (s : List Slot) (r w f : Nat) (at_ : Int) (x : List Nat) : (solo d s r w f).write 0 at_ x = solo (d.write at_ x) s r (w + 1) f ∧ (solo d s r w f).writeErr 0 at_ x = d.writeErr at_ x := by
  unfold write writeErr
  rw [solo_start, if_pos rfl, if_pos rfl, solo_asked]
  exact ⟨rfl, rfl⟩

theorem solo_flush (d : Dk) (s : List Slot) (r w f : Nat) : (solo d s r w f).flush 0 = solo d.flush s r w (f + 1) ∧ (solo d s r w f).flushErr 0 = d.flushErr := by
  unfold flush flushErr
  rw [solo_start, if_pos rfl, if_pos rfl, solo_asked]
  exact ⟨rfl, rfl⟩

theorem solo_there (d : Dk) (s : List Slot) (r w f : Nat) : (solo d s r w f).there 0 = 0 := by
  unfold there
  rw [solo_is, solo_dev]
  rfl

theorem solo_image (d : Dk) (s : List Slot) (r w f : Nat) : (solo d s r w f).image 0 = d.image := by
  unfold image
  rw [solo_dev]

theorem solo_pending (d : Dk) (s : List Slot) (r w f : Nat) : (solo d s r w f).pending 0 = d.pending := by
  unfold pending
  rw [solo_dev]

theorem solo_has (d : Dk) (s : List Slot) (r w f : Nat) : (solo d s r w f).has 0 = !d.bad := by
  unfold has
  rw [solo_dev]

theorem solo_pull (d : Dk) (s : List Slot) (r w f : Nat) : (solo d s r w f).pull 0 = gone ⟨none, some ⟨d.crash [], none⟩, none⟩ s r w f := by
  unfold pull
  rw [solo_dev]
  rfl

theorem gone_is (x : Slot) (s : List Slot) (r w f : Nat) : (gone x s r w f).is 0 = true := is_zero _ (by simp [gone])

theorem gone_dev (x : Slot) (s : List Slot) (r w f : Nat) : (gone x s r w f).dev 0 = x.inn := by
  unfold dev
  rw [gone_is]
  rfl

theorem gone_none {x : Slot} (hx : x.inn = none) (s : List Slot) (r w f : Nat) : (gone x s r w f).has 0 = false ∧ (gone x s r w f).sectors 0 = 0 ∧ (gone x s r w f).read 0 = gone x s (r + 1) w f ∧ (∀ at_, (gone x s r w f).readErr 0 at_ = 51 ∧ (gone x s r w f).readVal 0 at_ = []) := by
  have h0 : (gone x s r w f).dev 0 = none := by rw [gone_dev, hx]
  have h1 : (gone x s r w f).startErr 0 = 51 := by
    unfold startErr
    rw [gone_is, h0]
    rfl
  refine ⟨by unfold has; rw [h0], by unfold sectors; rw [h0], ?_, fun at_ => ⟨?_, ?_⟩⟩
  · unfold read start
    rw [gone_is, h0]
    rfl
  · unfold readErr
    rw [h1]
    rfl
  · unfold readVal
    rw [h1]
    rfl

theorem gone_push (e : Dev) (s : List Slot) (r w f : Nat) : (gone ⟨none, some e, none⟩ s r w f).push 0 = gone ⟨none, none, some e⟩ s r w f ∧ (gone ⟨none, some e, none⟩ s r w f).pushErr 0 = 0 := by
  have h1 : (gone ⟨none, some e, none⟩ s r w f).pushErr 0 = 0 := by
    unfold pushErr taken has
    rw [gone_is, gone_dev]
    rfl
  refine ⟨?_, h1⟩
  unfold push
  rw [if_pos h1]
  rfl

theorem gone_push2 (e : Dev) (s : List Slot) (r w f : Nat) : (gone ⟨none, none, some e⟩ s r w f).push 0 = gone ⟨none, none, some e⟩ s r w f ∧ (gone ⟨none, none, some e⟩ s r w f).pushErr 0 = 51 := by
  have h1 : (gone ⟨none, none, some e⟩ s r w f).pushErr 0 = 51 := by
    unfold pushErr
    rw [gone_is]
    rfl
  refine ⟨?_, h1⟩
  unfold push
  rw [if_neg (by rw [h1]; decide)]

theorem gone_cut (d : Dk) (s : List Slot) (r w f : Nat) (keeps : List (List Bool)) : ∃ s2, (gone ⟨none, none, some ⟨d, none⟩⟩ s r w f).cut keeps = solo d s2 r w f := by
  refine ⟨s.mapIdx (fun i x => cutSlot keeps (i + 1) x), ?_⟩
  unfold cut gone solo
  simp only [List.mapIdx_cons]
  rfl

theorem solo_cut (d : Dk) (s : List Slot) (r w f : Nat) (keeps : List (List Bool)) : ∃ s2, (solo d s r w f).cut keeps = solo (d.crash (keeps.getD 0 [])) s2 r w f ∧ s2.length = s.length := by
  refine ⟨s.mapIdx (fun i x => cutSlot keeps (i + 1) x), ?_, by simp only [List.length_mapIdx]⟩
  unfold cut solo
  simp only [List.mapIdx_cons]
  rfl

end Bay
end Go.Proofs.Ytljhpdgjajhgbaa
