/-
  Bays: what is as it was, and bays without trip and wear. No function of the program is named here. By an AI agent.
-/
import Derived.Test.YtljhpdgjajhgbaaBySpec
namespace Go.Proofs.Ytljhpdgjajhgbaa
open Go.RowKit
namespace Bay

theorem setIn_is (b : Bay) (s r : Int) (d : Dev) : (b.setIn s d).is r = b.is r := turn_is _ _ _ _

/-! ### other slots -/

theorem start_other {b : Bay} {s r : Int} (what : Nat) (h : s ≠ r) : (b.start s what).dev r = b.dev r := by
  unfold start
  split
  · rfl
  · split
    · rfl
    · split
      · rfl
      · split
        · rfl
        · rename_i d hd
          rw [setIn_other (b := b.counted what) (dev_is hd) h]
          rfl

theorem start_len (b : Bay) (s : Int) (what : Nat) : (b.start s what).slots.length = b.slots.length := by
  unfold start
  split
  · rfl
  · split
    · rfl
    · split
      · rfl
      · split
        · rfl
        · exact turn_len _ _ _

theorem read_other {b : Bay} {s r : Int} (h : s ≠ r) : (b.read s).dev r = b.dev r := start_other 1 h

theorem write_other {b : Bay} {s r at_ : Int} {x : List Nat} (h : s ≠ r) : (b.write s at_ x).dev r = b.dev r := by
  unfold write
  split
  · rename_i h0
    rw [setIn_other (b := b.counted 2) (startErr_ok h0).1 h]
    rfl
  · exact start_other 2 h

theorem write_len (b : Bay) (s at_ : Int) (x : List Nat) : (b.write s at_ x).slots.length = b.slots.length := by
  unfold write
  split
  · exact turn_len _ _ _
  · exact start_len _ _ _

theorem flush_other {b : Bay} {s r : Int} (h : s ≠ r) : (b.flush s).dev r = b.dev r := by
  unfold flush
  split
  · rename_i h0
    rw [setIn_other (b := b.counted 3) (startErr_ok h0).1 h]
    rfl
  · exact start_other 3 h

theorem flush_len (b : Bay) (s : Int) : (b.flush s).slots.length = b.slots.length := by
  unfold flush
  split
  · exact turn_len _ _ _
  · exact start_len _ _ _

theorem fail_other {b : Bay} {s r : Int} (h : s ≠ r) : (b.fail s).dev r = b.dev r := by
  unfold fail
  split
  · rename_i d hd
    exact setIn_other (dev_is hd) h
  · rfl

theorem fail_len (b : Bay) (s : Int) : (b.fail s).slots.length = b.slots.length := by
  unfold fail
  split
  · exact turn_len _ _ _
  · rfl

theorem wear_other {b : Bay} {s r n : Int} (h : s ≠ r) : (b.wear s n).dev r = b.dev r := by
  unfold wear
  split
  · rfl
  · split
    · rename_i d hd
      exact setIn_other (dev_is hd) h
    · rfl

theorem wear_len (b : Bay) (s n : Int) : (b.wear s n).slots.length = b.slots.length := by
  unfold wear
  split
  · rfl
  · split
    · exact turn_len _ _ _
    · rfl

theorem pull_other {b : Bay} {s r : Int} (h : s ≠ r) : (b.pull s).dev r = b.dev r := by
  unfold pull
  split
  · rename_i d hd
    exact turn_other (dev_is hd) h
  · rfl

theorem pull_len (b : Bay) (s : Int) : (b.pull s).slots.length = b.slots.length := by
  unfold pull
  split
  · exact turn_len _ _ _
  · rfl

theorem pushErr_is {b : Bay} {s : Int} (h : b.pushErr s = 0) : b.is s = true := by
  unfold pushErr at h
  split at h
  · cases h
  · rename_i h1
    simpa using h1

theorem push_other {b : Bay} {s r : Int} (h : s ≠ r) : (b.push s).dev r = b.dev r := by
  unfold push
  split
  · rename_i h0
    exact turn_other (pushErr_is h0) h
  · rfl

theorem push_len (b : Bay) (s : Int) : (b.push s).slots.length = b.slots.length := by
  unfold push
  split
  · exact turn_len _ _ _
  · rfl

theorem swapErr_is {b : Bay} {s n : Int} (h : b.swapErr s n = 0) : b.is s = true := by
  unfold swapErr at h
  split at h
  · cases h
  · rename_i h1
    cases hb : b.is s with
    | true => rfl
    | false => exact absurd (.inl hb) h1

theorem swap_other {b : Bay} {s r n : Int} (h : s ≠ r) : (b.swap s n).dev r = b.dev r := by
  unfold swap
  split
  · rename_i h0
    exact setIn_other (swapErr_is h0) h
  · rfl

theorem swap_len (b : Bay) (s n : Int) : (b.swap s n).slots.length = b.slots.length := by
  unfold swap
  split
  · exact turn_len _ _ _
  · rfl

theorem loadErr_is {b : Bay} {s : Int} {x : List Nat} (h : b.loadErr s x = 0) : b.is s = true := by
  unfold loadErr at h
  split at h
  · cases h
  · rename_i h1
    simpa using h1

theorem load_other {b : Bay} {s r : Int} {x : List Nat} (h : s ≠ r) : (b.load s x).dev r = b.dev r := by
  unfold load
  split
  · rename_i h0
    exact setIn_other (loadErr_is h0) h
  · rfl

theorem load_len (b : Bay) (s : Int) (x : List Nat) : (b.load s x).slots.length = b.slots.length := by
  unfold load
  split
  · exact turn_len _ _ _
  · rfl

/-! ### caches and counts -/

theorem Low.same {k : Nat} {b c : Bay} (h : Low k b) (hd : ∀ s d, c.dev s = some d → ∃ e, b.dev s = some e ∧ d.disk.cache.length ≤ e.disk.cache.length) (h1 : c.reads = b.reads) (h2 : c.writes = b.writes) (h3 : c.flushes = b.flushes) : Low k c :=
  ⟨fun s d hs => by
    obtain ⟨e, he, hl⟩ := hd s d hs
    exact Nat.le_trans hl (h.caches s e he), by rw [h1]; exact h.reads, by rw [h2]; exact h.writes, by rw [h3]; exact h.flushes⟩

theorem Low.fail {k : Nat} {b : Bay} (h : Low k b) (s : Int) : Low k (b.fail s) := by
  unfold Bay.fail
  split
  · rename_i d hd
    exact h.setIn (dev_is hd) (by simp [Dev.lay, Dk.fail])
  · exact h

theorem Low.wear {k : Nat} {b : Bay} (h : Low k b) (s n : Int) : Low k (b.wear s n) := by
  unfold Bay.wear
  split
  · exact h
  · split
    · rename_i d hd
      exact h.setIn (dev_is hd) (show d.disk.cache.length ≤ k from h.caches _ _ hd)
    · exact h

theorem Low.turn {k : Nat} {b : Bay} {s : Int} {f : Slot → Slot} (h : Low k b) (hs : b.is s = true) (hf : ∀ x, b.slots[s.toNat]? = some x → ∀ d, (f x).inn = some d → d.disk.cache.length ≤ k) : Low k (b.turn s f) := by
  refine ⟨fun r d hd => ?_, h.reads, h.writes, h.flushes⟩
  by_cases hr : s = r
  · subst hr
    obtain ⟨x, hx, e, _⟩ := turn_same (f := f) hs
    rw [e] at hd
    exact hf x hx d hd
  · rw [turn_other hs hr] at hd
    exact h.caches r d hd

theorem Low.pull {k : Nat} {b : Bay} (h : Low k b) (s : Int) : Low k (b.pull s) := by
  unfold Bay.pull
  split
  · rename_i d hd
    exact h.turn (dev_is hd) (fun x _ d hd => by cases hd)
  · exact h

theorem slot_dev {b : Bay} {s : Int} {x : Slot} (hs : b.is s = true) (h : b.slots[s.toNat]? = some x) : b.dev s = x.inn := by
  unfold dev
  rw [if_pos hs, h]
  rfl

theorem Low.push {k : Nat} {b : Bay} (h : Low k b) (s : Int) : Low k (b.push s) := by
  unfold Bay.push
  split
  · rename_i h0
    exact h.turn (pushErr_is h0) (fun x hx d hd => h.caches s d (by rw [slot_dev (pushErr_is h0) hx]; exact hd))
  · exact h

theorem Low.swap {k : Nat} {b : Bay} (h : Low k b) (s n : Int) : Low k (b.swap s n) := by
  unfold Bay.swap
  split
  · rename_i h0
    exact h.setIn (swapErr_is h0) (by simp [Dk.new])
  · exact h

theorem Low.load {k : Nat} {b : Bay} (h : Low k b) (s : Int) (x : List Nat) : Low k (b.load s x) := by
  unfold Bay.load
  split
  · rename_i h0
    exact h.setIn (loadErr_is h0) (by simp [Dk.load])
  · exact h

theorem Low.tripped {k : Nat} {b : Bay} (h : Low k b) (n : Int) : Low k (b.tripped n) := by
  unfold Bay.tripped
  split
  · exact ⟨h.caches, h.reads, h.writes, h.flushes⟩
  · exact h

theorem cut_len (b : Bay) (keeps : List (List Bool)) : (b.cut keeps).slots.length = b.slots.length := by simp [cut]

theorem cut_is (b : Bay) (keeps : List (List Bool)) (s : Int) : (b.cut keeps).is s = b.is s := by unfold is; rw [cut_len]

theorem cut_dev {b : Bay} (keeps : List (List Bool)) {s : Nat} (hs : s < b.slots.length) : (b.cut keeps).dev s = (cutSlot keeps s b.slots[s]).inn := by
  unfold dev
  rw [cut_is, is_nat b hs, if_pos rfl]
  simp [cut, hs]

/-- Disks that come have nothing in their caches. -/
def Clean (b : Bay) : Prop := ∀ x ∈ b.slots, ∀ d, x.aside = some d ∨ x.coming = some d → d.disk.cache = []

theorem Low.cut {k : Nat} {b : Bay} (h : Low k b) (hc : Clean b) (keeps : List (List Bool)) : Low k (b.cut keeps) := by
  refine ⟨fun r d hd => ?_, h.reads, h.writes, h.flushes⟩
  have hr := dev_is hd
  rw [cut_is] at hr
  obtain ⟨i, rfl, hi⟩ := is_some hr
  rw [cut_dev keeps hi] at hd
  unfold cutSlot at hd
  split at hd
  · rename_i c hcom
    obtain rfl : c = d := by simpa using hd
    rw [hc _ (List.getElem_mem hi) c (.inr hcom)]
    simp
  · rename_i hcom
    simp only at hd
    cases hin : b.slots[i].inn with
    | none => rw [hin] at hd; cases hd
    | some e =>
      rw [hin] at hd
      obtain rfl : e.lay (e.disk.crash (keeps.getD i [])) = d := by simpa using hd
      have h1 : b.dev i = some e := by
        rw [slot_dev (x := b.slots[i]) hr (by rw [Int.toNat_natCast]; exact List.getElem?_eq_getElem hi), hin]
      exact Nat.le_trans (crash_cache _ _) (h.caches _ _ h1)

/-! ### bays without trip and wear -/

structure Calm (b : Bay) : Prop where
  lit : b.dark = false
  trip : b.trip = none
  wear : ∀ s d, b.dev s = some d → d.wear = none

theorem Calm.err {b : Bay} (h : Calm b) (s : Int) : b.startErr s = b.there s := by
  unfold startErr there
  rw [h.lit, h.trip]
  simp

theorem Calm.step {b : Bay} (h : Calm b) {s : Int} {d : Dev} (hd : b.dev s = some d) : d.step = d := by
  unfold Dev.step
  rw [h.wear s d hd]

theorem Calm.asked {b : Bay} (h : Calm b) {s : Int} {d : Dev} (hd : b.dev s = some d) : b.asked s = d := by
  unfold Bay.asked
  rw [hd]
  exact h.step hd

theorem there_ok {b : Bay} {s : Int} {d : Dev} (hd : b.dev s = some d) : b.there s = 0 := by
  unfold there
  rw [dev_is hd, hd]
  simp

theorem Calm.setIn {b : Bay} (h : Calm b) {s : Int} (hs : b.is s = true) {d : Dev} (hd : d.wear = none) (what : Nat) : Calm ((b.counted what).setIn s d) := by
  refine ⟨h.lit, ?_, fun r e he => ?_⟩
  · show b.trip.map (· - 1) = none
    rw [h.trip]
    rfl
  · by_cases hr : s = r
    · subst hr
      rw [setIn_same (b := b.counted what) hs] at he
      obtain rfl : d = e := by simpa using he
      exact hd
    · rw [setIn_other (b := b.counted what) hs hr] at he
      exact h.wear r e he

theorem Calm.read {b : Bay} (h : Calm b) {s : Int} {d : Dev} (hd : b.dev s = some d) : Calm (b.read s) ∧ (∀ r, (b.read s).dev r = b.dev r) ∧ (∀ at_, b.readVal s at_ = d.disk.readVal at_ ∧ b.readErr s at_ = d.disk.check at_) := by
  have e0 : b.startErr s = 0 := by rw [h.err, there_ok hd]
  have e1 : b.read s = (b.counted 1).setIn s d := by
    unfold Bay.read Bay.start
    rw [dev_is hd, h.lit, h.trip, hd]
    simp [h.step hd]
  refine ⟨by rw [e1]; exact h.setIn (dev_is hd) (h.wear s d hd) 1, fun r => ?_, fun at_ => ⟨by unfold readVal; rw [if_pos e0, h.asked hd], by unfold readErr; rw [if_pos e0, h.asked hd]⟩⟩
  rw [e1]
  by_cases hr : s = r
  · subst hr
    rw [setIn_same (b := b.counted 1) (dev_is hd), hd]
  · rw [setIn_other (b := b.counted 1) (dev_is hd) hr]
    rfl

theorem Calm.write {b : Bay} (h : Calm b) {s : Int} {d : Dev} (hd : b.dev s = some d) (at_ : Int) (x : List Nat) : Calm (b.write s at_ x) ∧ (b.write s at_ x).dev s = some (d.lay (d.disk.write at_ x)) ∧ b.writeErr s at_ x = d.disk.writeErr at_ x := by
  have e0 : b.startErr s = 0 := by rw [h.err, there_ok hd]
  have e1 : b.write s at_ x = (b.counted 2).setIn s (d.lay (d.disk.write at_ x)) := by
    unfold Bay.write
    rw [if_pos e0, h.asked hd]
  refine ⟨by rw [e1]; exact h.setIn (d := d.lay (d.disk.write at_ x)) (dev_is hd) (h.wear s d hd) 2, by rw [e1]; exact setIn_same (b := b.counted 2) (dev_is hd), by unfold writeErr; rw [if_pos e0, h.asked hd]⟩

theorem Calm.flush {b : Bay} (h : Calm b) {s : Int} {d : Dev} (hd : b.dev s = some d) : Calm (b.flush s) ∧ (b.flush s).dev s = some (d.lay d.disk.flush) ∧ b.flushErr s = d.disk.flushErr := by
  have e0 : b.startErr s = 0 := by rw [h.err, there_ok hd]
  have e1 : b.flush s = (b.counted 3).setIn s (d.lay d.disk.flush) := by
    unfold Bay.flush
    rw [if_pos e0, h.asked hd]
  refine ⟨by rw [e1]; exact h.setIn (d := d.lay d.disk.flush) (dev_is hd) (h.wear s d hd) 3, by rw [e1]; exact setIn_same (b := b.counted 3) (dev_is hd), by unfold flushErr; rw [if_pos e0, h.asked hd]⟩

theorem new_dev (sizes : List Int) (s : Nat) (h : s < sizes.length) : (Bay.new sizes).dev s = (slotOf sizes[s]).inn := by
  unfold dev
  rw [is_nat _ (by simp [Bay.new]; exact h), if_pos rfl]
  simp [Bay.new, h]

theorem new_calm (sizes : List Int) : Calm (Bay.new sizes) := by
  refine ⟨rfl, rfl, fun s d hd => ?_⟩
  obtain ⟨i, rfl, hi⟩ := is_some (dev_is hd)
  have hi2 : i < sizes.length := by simpa [Bay.new] using hi
  rw [new_dev sizes i hi2] at hd
  unfold slotOf at hd
  simp only at hd
  split at hd
  · cases hd
  · obtain rfl : _ = d := by simpa using hd
    rfl

theorem new_low (sizes : List Int) : Low 0 (Bay.new sizes) := by
  refine ⟨fun s d hd => ?_, Nat.le_refl _, Nat.le_refl _, Nat.le_refl _⟩
  obtain ⟨i, rfl, hi⟩ := is_some (dev_is hd)
  have hi2 : i < sizes.length := by simpa [Bay.new] using hi
  rw [new_dev sizes i hi2] at hd
  unfold slotOf at hd
  simp only at hd
  split at hd
  · cases hd
  · obtain rfl : _ = d := by simpa using hd
    simp [Dk.new]

end Bay
end Go.Proofs.Ytljhpdgjajhgbaa
