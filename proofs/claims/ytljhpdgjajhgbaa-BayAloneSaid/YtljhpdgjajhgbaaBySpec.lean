/-
  What a bay of disks with one power supply does, in the document's words. No function of the program is named here. By an AI agent.
-/
import Derived.Test.YtljhpdgjajhgbaaDkSpec
namespace Go.Proofs.Ytljhpdgjajhgbaa
open Go.RowKit

/-- A disk with its wear: how many operations more, if it is worn. -/
structure Dev where
  disk : Dk
  wear : Option Nat

structure Slot where
  inn : Option Dev
  aside : Option Dev
  coming : Option Dev

structure Bay where
  slots : List Slot
  dark : Bool
  trip : Option Nat
  reads : Nat
  writes : Nat
  flushes : Nat

/-- An operation of a worn disk. -/
def Dev.step (d : Dev) : Dev := match d.wear with
  | some 0 => ⟨d.disk.fail, none⟩
  | some (n + 1) => ⟨d.disk, some n⟩
  | none => d

def Dev.lay (d : Dev) (k : Dk) : Dev := { d with disk := k }

namespace Bay

def slotOf (n : Int) : Slot := ⟨if n = 0 then none else some ⟨Dk.new n.toNat, none⟩, none, none⟩

def new (sizes : List Int) : Bay := ⟨sizes.map slotOf, false, none, 0, 0, 0⟩

def newErr (sizes : List Int) : Nat := if sizes.length < 1 ∨ 17 < sizes.length then 1 else if sizes.any (fun n => decide (n < 0 ∨ 8192 < n)) then 40 else 0

/-- Is there such a slot? -/
def is (b : Bay) (s : Int) : Bool := decide (0 ≤ s ∧ s < b.slots.length)

def dev (b : Bay) (s : Int) : Option Dev := if b.is s then (b.slots[s.toNat]?).bind (·.inn) else none

/-- A slot becomes another. -/
def turn (b : Bay) (s : Int) (f : Slot → Slot) : Bay := { b with slots := b.slots.modify s.toNat f }

def setIn (b : Bay) (s : Int) (d : Dev) : Bay := b.turn s (fun x => { x with inn := some d })

/-- An operation is counted. -/
def counted (b : Bay) (what : Nat) : Bay := { b with trip := b.trip.map (· - 1), reads := b.reads + (if what = 1 then 1 else 0), writes := b.writes + (if what = 2 then 1 else 0), flushes := b.flushes + (if what = 3 then 1 else 0) }

/-- How an operation begins: an error, or the disk of that slot is asked. -/
def startErr (b : Bay) (s : Int) : Nat :=
  if b.is s = false then 1 else if b.dark = true then 50 else if b.trip = some 0 then 50 else if (b.dev s).isNone then 51 else 0

def start (b : Bay) (s : Int) (what : Nat) : Bay :=
  if b.is s = false then b else if b.dark = true then b else if b.trip = some 0 then { b with dark := true, trip := none } else
  match b.dev s with
  | none => b.counted what
  | some d => (b.counted what).setIn s d.step

/-- The disk that is asked then. -/
def asked (b : Bay) (s : Int) : Dev := match b.dev s with
  | some d => d.step
  | none => ⟨Dk.new 1, none⟩

def readVal (b : Bay) (s at_ : Int) : List Nat := if b.startErr s = 0 then (b.asked s).disk.readVal at_ else []
def readErr (b : Bay) (s at_ : Int) : Nat := if b.startErr s = 0 then (b.asked s).disk.check at_ else b.startErr s
def read (b : Bay) (s : Int) : Bay := b.start s 1

def writeErr (b : Bay) (s at_ : Int) (x : List Nat) : Nat := if b.startErr s = 0 then (b.asked s).disk.writeErr at_ x else b.startErr s
def write (b : Bay) (s at_ : Int) (x : List Nat) : Bay := if b.startErr s = 0 then (b.counted 2).setIn s ((b.asked s).lay ((b.asked s).disk.write at_ x)) else b.start s 2

def flushErr (b : Bay) (s : Int) : Nat := if b.startErr s = 0 then (b.asked s).disk.flushErr else b.startErr s
def flush (b : Bay) (s : Int) : Bay := if b.startErr s = 0 then (b.counted 3).setIn s ((b.asked s).lay ((b.asked s).disk.flush)) else b.start s 3

/-- Is a disk in a slot that there is? -/
def there (b : Bay) (s : Int) : Nat := if b.is s = false then 1 else if (b.dev s).isNone then 51 else 0

def fail (b : Bay) (s : Int) : Bay := match b.dev s with
  | some d => b.setIn s (d.lay d.disk.fail)
  | none => b

def wearErr (b : Bay) (s n : Int) : Nat := if n < 0 then 1 else b.there s
def wear (b : Bay) (s n : Int) : Bay := if n < 0 then b else match b.dev s with
  | some d => b.setIn s { d with wear := some n.toNat }
  | none => b

def pull (b : Bay) (s : Int) : Bay := match b.dev s with
  | some d => b.turn s (fun x => { x with inn := none, aside := some (d.lay (d.disk.crash [])) })
  | none => b

/-- A disk that has not failed is in the slot. -/
def has (b : Bay) (s : Int) : Bool := match b.dev s with
  | some d => !d.disk.bad
  | none => false

def taken (b : Bay) (s : Int) : Bool := b.has s || ((b.slots[s.toNat]?).bind (·.coming)).isSome

def pushErr (b : Bay) (s : Int) : Nat :=
  if b.is s = false then 1 else if ((b.slots[s.toNat]?).bind (·.aside)).isNone then 51 else if b.taken s = true then 52 else 0
def push (b : Bay) (s : Int) : Bay := if b.pushErr s = 0 then b.turn s (fun x => { x with aside := none, coming := x.aside }) else b

def swapErr (b : Bay) (s n : Int) : Nat := if b.is s = false ∨ n < 0 then 1 else if b.taken s = true then 52 else if 1 ≤ n ∧ n ≤ 8192 then 0 else 40
def swap (b : Bay) (s n : Int) : Bay := if b.swapErr s n = 0 then b.setIn s ⟨Dk.new n.toNat, none⟩ else b

/-- Is it an image? -/
def fits (x : List Nat) : Prop := ∃ n, x.length = 128 * n ∧ 1 ≤ n ∧ n ≤ 8192
instance (x : List Nat) : Decidable (fits x) := decidable_of_iff (x.length % 128 = 0 ∧ 128 ≤ x.length ∧ x.length ≤ 1048576) ⟨fun h => ⟨x.length / 128, by omega, by omega, by omega⟩, fun ⟨n, h⟩ => by omega⟩

def loadErr (b : Bay) (s : Int) (x : List Nat) : Nat := if b.is s = false then 1 else if b.taken s = true then 52 else if fits x then 0 else 40
def load (b : Bay) (s : Int) (x : List Nat) : Bay := if b.loadErr s x = 0 then b.setIn s ⟨Dk.load x, none⟩ else b

def tripErr (b : Bay) (n : Int) : Nat := if n < 0 then 1 else if b.dark = true then 50 else 0
def tripped (b : Bay) (n : Int) : Bay := if b.tripErr n = 0 then { b with trip := some n.toNat } else b

/-- A slot behind a cut. -/
def cutSlot (keeps : List (List Bool)) (i : Nat) (s : Slot) : Slot := match s.coming with
  | some c => { s with inn := some c, coming := none }
  | none => { s with inn := s.inn.map (fun d => d.lay (d.disk.crash (keeps.getD i []))) }

def cut (b : Bay) (keeps : List (List Bool)) : Bay := { b with slots := b.slots.mapIdx (cutSlot keeps), dark := false, trip := none }

def pending (b : Bay) (s : Int) : List Nat := match b.dev s with
  | some d => d.disk.pending
  | none => []

def sectors (b : Bay) (s : Int) : Nat := match b.dev s with
  | some d => d.disk.last.length
  | none => 0

def image (b : Bay) (s : Int) : List Nat := match b.dev s with
  | some d => d.disk.image
  | none => []

/-! ### what is as it was -/

theorem is_nat (b : Bay) {s : Nat} (h : s < b.slots.length) : b.is s = true := by
  unfold is
  exact decide_eq_true ⟨Int.natCast_nonneg _, by omega⟩

theorem is_some {b : Bay} {s : Int} (h : b.is s = true) : ∃ k : Nat, s = k ∧ k < b.slots.length := by
  have h1 := of_decide_eq_true h
  exact ⟨s.toNat, by omega, by omega⟩

theorem turn_len (b : Bay) (s : Int) (f : Slot → Slot) : (b.turn s f).slots.length = b.slots.length := by simp [turn]

theorem turn_is (b : Bay) (s r : Int) (f : Slot → Slot) : (b.turn s f).is r = b.is r := by unfold is; rw [turn_len]

theorem turn_other {b : Bay} {s r : Int} {f : Slot → Slot} (hs : b.is s = true) (h : s ≠ r) : (b.turn s f).dev r = b.dev r := by
  unfold dev
  rw [turn_is]
  split
  · rename_i hr
    obtain ⟨i, rfl, hi⟩ := is_some hs
    obtain ⟨j, rfl, hj⟩ := is_some hr
    have hne : i ≠ j := fun e => h (by rw [e])
    simp [turn, hne]
  · rfl

theorem turn_same {b : Bay} {s : Int} {f : Slot → Slot} (hs : b.is s = true) : ∃ x, b.slots[s.toNat]? = some x ∧ (b.turn s f).dev s = (f x).inn ∧ (b.turn s f).slots[s.toNat]? = some (f x) := by
  obtain ⟨i, rfl, hi⟩ := is_some hs
  have h1 : b.slots[i]? = some b.slots[i] := List.getElem?_eq_getElem hi
  refine ⟨b.slots[i], by rw [Int.toNat_natCast]; exact h1, ?_, ?_⟩
  · unfold dev
    rw [turn_is, is_nat b hi, if_pos rfl]
    simp [turn, h1]
  · simp [turn, h1]

theorem setIn_same {b : Bay} {s : Int} {d : Dev} (hs : b.is s = true) : (b.setIn s d).dev s = some d := by
  obtain ⟨x, _, h, _⟩ := turn_same (f := fun x => { x with inn := some d }) hs
  exact h

theorem setIn_other {b : Bay} {s r : Int} {d : Dev} (hs : b.is s = true) (h : s ≠ r) : (b.setIn s d).dev r = b.dev r := turn_other hs h

theorem dev_is {b : Bay} {s : Int} {d : Dev} (h : b.dev s = some d) : b.is s = true := by
  unfold dev at h
  split at h
  · assumption
  · cases h

theorem counted_dev (b : Bay) (what : Nat) (s : Int) : (b.counted what).dev s = b.dev s := rfl
theorem counted_is (b : Bay) (what : Nat) (s : Int) : (b.counted what).is s = b.is s := rfl

/-- No disk has more in its cache than k, and no more than k operations have been counted. -/
structure Low (k : Nat) (b : Bay) : Prop where
  caches : ∀ s d, b.dev s = some d → d.disk.cache.length ≤ k
  reads : b.reads ≤ k
  writes : b.writes ≤ k
  flushes : b.flushes ≤ k

theorem step_cache (d : Dev) : d.step.disk.cache.length ≤ d.disk.cache.length := by
  unfold Dev.step
  split
  · simp [Dk.fail]
  · exact Nat.le_refl _
  · exact Nat.le_refl _

theorem write_cache (d : Dk) (at_ : Int) (x : List Nat) : (d.write at_ x).cache.length ≤ d.cache.length + 1 := by
  unfold Dk.write
  split
  · simp
  · omega

theorem flush_cache (d : Dk) : d.flush.cache.length ≤ d.cache.length := by
  unfold Dk.flush
  split
  · exact Nat.le_refl _
  · simp

theorem crash_cache (d : Dk) (keep : List Bool) : (d.crash keep).cache.length ≤ d.cache.length := by
  unfold Dk.crash
  split
  · exact Nat.le_refl _
  · simp

theorem Low.mono {k m : Nat} {b : Bay} (h : Low k b) (hm : k ≤ m) : Low m b :=
  ⟨fun s d hd => Nat.le_trans (h.caches s d hd) hm, Nat.le_trans h.reads hm, Nat.le_trans h.writes hm, Nat.le_trans h.flushes hm⟩

theorem Low.setIn {k : Nat} {b : Bay} {s : Int} {d : Dev} (h : Low k b) (hs : b.is s = true) (hd : d.disk.cache.length ≤ k) : Low k (b.setIn s d) := by
  refine ⟨fun r e he => ?_, h.reads, h.writes, h.flushes⟩
  by_cases hr : s = r
  · subst hr
    rw [setIn_same hs] at he
    obtain rfl : d = e := by simpa using he
    exact hd
  · rw [setIn_other hs hr] at he
    exact h.caches r e he

theorem Low.counted {k : Nat} {b : Bay} (h : Low k b) (what : Nat) : Low (k + 1) (b.counted what) := by
  refine ⟨fun s d hd => Nat.le_trans (h.caches s d hd) (Nat.le_succ _), ?_, ?_, ?_⟩
  · have := h.reads; show b.reads + (if what = 1 then 1 else 0) ≤ k + 1; split <;> omega
  · have := h.writes; show b.writes + (if what = 2 then 1 else 0) ≤ k + 1; split <;> omega
  · have := h.flushes; show b.flushes + (if what = 3 then 1 else 0) ≤ k + 1; split <;> omega

theorem Low.start {k : Nat} {b : Bay} (h : Low k b) (s : Int) (what : Nat) : Low (k + 1) (b.start s what) := by
  unfold Bay.start
  split
  · exact h.mono (Nat.le_succ _)
  · split
    · exact h.mono (Nat.le_succ _)
    · split
      · exact ⟨fun r d hd => Nat.le_trans (h.caches r d hd) (Nat.le_succ _), Nat.le_trans h.reads (Nat.le_succ _), Nat.le_trans h.writes (Nat.le_succ _), Nat.le_trans h.flushes (Nat.le_succ _)⟩
      · split
        · exact h.counted what
        · rename_i d hd
          exact (h.counted what).setIn (dev_is hd) (Nat.le_trans (step_cache d) (Nat.le_trans (h.caches _ _ hd) (Nat.le_succ _)))

theorem startErr_ok {b : Bay} {s : Int} (h : b.startErr s = 0) : b.is s = true ∧ b.dark = false ∧ b.trip ≠ some 0 ∧ ∃ d, b.dev s = some d ∧ b.asked s = d.step := by
  unfold startErr at h
  split at h
  · cases h
  · split at h
    · cases h
    · split at h
      · cases h
      · split at h
        · cases h
        · rename_i h1 h2 h3 h4
          obtain ⟨d, hd⟩ : ∃ d, b.dev s = some d := Option.ne_none_iff_exists'.1 (fun e => h4 (by rw [e]; rfl))
          exact ⟨by simpa using h1, by simpa using h2, h3, d, hd, by unfold asked; rw [hd]⟩

theorem Low.write {k : Nat} {b : Bay} (h : Low k b) (s at_ : Int) (x : List Nat) : Low (k + 1) (b.write s at_ x) := by
  unfold Bay.write
  split
  · rename_i h0
    obtain ⟨h1, _, _, d, hd, ha⟩ := startErr_ok h0
    refine (h.counted 2).setIn h1 ?_
    have := write_cache (b.asked s).disk at_ x
    have h3 := step_cache d
    have h4 := h.caches _ _ hd
    rw [ha] at this ⊢
    show (d.step.disk.write at_ x).cache.length ≤ k + 1
    omega
  · exact h.start s 2

theorem Low.flush {k : Nat} {b : Bay} (h : Low k b) (s : Int) : Low (k + 1) (b.flush s) := by
  unfold Bay.flush
  split
  · rename_i h0
    obtain ⟨h1, _, _, d, hd, ha⟩ := startErr_ok h0
    refine (h.counted 3).setIn h1 ?_
    have := flush_cache (b.asked s).disk
    have h3 := step_cache d
    have h4 := h.caches _ _ hd
    rw [ha] at this ⊢
    show d.step.disk.flush.cache.length ≤ k + 1
    omega
  · exact h.start s 3

end Bay
end Go.Proofs.Ytljhpdgjajhgbaa
