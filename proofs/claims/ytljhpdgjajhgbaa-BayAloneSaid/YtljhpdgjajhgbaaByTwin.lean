/-
  A bay, and one with a trip that is asked the same. No function of the program is named here. By an AI agent.
-/
import Derived.Test.YtljhpdgjajhgbaaByPlain
namespace Go.Proofs.Ytljhpdgjajhgbaa
open Go.RowKit
namespace Bay

def tot (b : Bay) : Nat := b.reads + b.writes + b.flushes

def withTrip (a : Bay) (m : Nat) : Bay := { a with trip := some m }
def darkened (a : Bay) : Bay := { a with dark := true, trip := none }

theorem trip_is (a : Bay) (m : Nat) (s : Int) : (a.withTrip m).is s = a.is s := rfl
theorem trip_dev (a : Bay) (m : Nat) (s : Int) : (a.withTrip m).dev s = a.dev s := rfl
theorem trip_asked (a : Bay) (m : Nat) (s : Int) : (a.withTrip m).asked s = a.asked s := rfl

theorem trip_err {a : Bay} (ht : a.trip = none) (m : Nat) (s : Int) : (a.withTrip (m + 1)).startErr s = a.startErr s := by
  unfold startErr
  rw [trip_is, trip_dev, ht]
  simp [withTrip]

theorem trip_counted {a : Bay} (m what : Nat) : (a.withTrip (m + 1)).counted what = (a.counted what).withTrip m := by
  unfold counted withTrip
  simp

theorem trip_setIn (a : Bay) (m : Nat) (s : Int) (d : Dev) : (a.withTrip m).setIn s d = (a.setIn s d).withTrip m := rfl

theorem trip_start {a : Bay} (hd : a.dark = false) (ht : a.trip = none) (m : Nat) {s : Int} (hs : a.is s = true) (what : Nat) : (a.withTrip (m + 1)).start s what = (a.start s what).withTrip m := by
  unfold start
  rw [trip_is, trip_dev, hs, ht]
  rw [show (a.withTrip (m + 1)).dark = false from hd, hd, show (a.withTrip (m + 1)).trip = some (m + 1) from rfl]
  rw [if_neg (by simp), if_neg (by simp), if_neg (by simp), if_neg (by simp), if_neg (by simp), if_neg (by simp), trip_counted]
  cases a.dev s with
  | none => rfl
  | some d => rfl

theorem trip_plain {a : Bay} (hd : a.dark = false) (ht : a.trip = none) (m : Nat) {s : Int} (hs : a.is s = true) (k n : Int) (x : List Nat) :
    (a.withTrip (m + 1)).plain k s n x = (a.plain k s n x).withTrip m ∧ (a.withTrip (m + 1)).plainErr k s n x = a.plainErr k s n x ∧ (a.withTrip (m + 1)).plainVal k s n = a.plainVal k s n := by
  refine ⟨?_, ?_, ?_⟩
  · unfold plain
    split
    · exact trip_start hd ht m hs 1
    · split
      · unfold write
        rw [trip_err ht, trip_asked, trip_counted, trip_setIn, trip_start hd ht m hs]
        split <;> rfl
      · unfold flush
        rw [trip_err ht, trip_asked, trip_counted, trip_setIn, trip_start hd ht m hs]
        split <;> rfl
  · unfold plainErr readErr writeErr flushErr
    rw [trip_err ht, trip_asked]
  · unfold plainVal readVal
    rw [trip_err ht, trip_asked]

theorem off_plain {b c : Bay} {s : Int} (h : b.startErr s = 50) (hst : ∀ what, b.start s what = c) (k n : Int) (x : List Nat) : b.plain k s n x = c ∧ b.plainErr k s n x = 50 ∧ b.plainVal k s n = [] := by
  have h0 : ¬ b.startErr s = 0 := by omega
  refine ⟨?_, ?_, ?_⟩
  · unfold plain
    split
    · exact hst 1
    · split
      · unfold write
        rw [if_neg h0]
        exact hst 2
      · unfold flush
        rw [if_neg h0]
        exact hst 3
  · unfold plainErr readErr writeErr flushErr
    rw [if_neg h0, if_neg h0, if_neg h0, h]
    split
    · rfl
    · split <;> rfl
  · unfold plainVal readVal
    rw [if_neg h0]
    split <;> rfl

/-- The trip is used up. -/
theorem zero_plain {a : Bay} (hd : a.dark = false) {s : Int} (hs : a.is s = true) (k n : Int) (x : List Nat) :
    (a.withTrip 0).plain k s n x = a.darkened ∧ (a.withTrip 0).plainErr k s n x = 50 ∧ (a.withTrip 0).plainVal k s n = [] := by
  have h1 : (a.withTrip 0).is s = true := hs
  have h2 : (a.withTrip 0).dark = false := hd
  refine off_plain (c := a.darkened) ?_ (fun what => ?_) k n x
  · unfold startErr
    rw [h1, h2]
    rfl
  · unfold start
    rw [h1, h2]
    rfl

/-- It is dark. -/
theorem dark_plain {a : Bay} {s : Int} (hs : a.is s = true) (k n : Int) (x : List Nat) :
    a.darkened.plain k s n x = a.darkened ∧ a.darkened.plainErr k s n x = 50 ∧ a.darkened.plainVal k s n = [] := by
  have h1 : a.darkened.is s = true := hs
  refine off_plain (c := a.darkened) ?_ (fun what => ?_) k n x
  · unfold startErr
    rw [h1]
    rfl
  · unfold start
    rw [h1]
    rfl

theorem start_keeps {a : Bay} (hd : a.dark = false) (ht : a.trip = none) {s : Int} (hs : a.is s = true) {what : Nat} (hw : what = 1 ∨ what = 2 ∨ what = 3) : (a.start s what).dark = false ∧ (a.start s what).trip = none ∧ (a.start s what).tot = a.tot + 1 := by
  unfold start
  rw [hs, hd, ht, if_neg (by simp), if_neg (by simp), if_neg (by simp)]
  cases a.dev s with
  | none => rcases hw with rfl | rfl | rfl <;> (refine ⟨hd, by simp [counted, ht], ?_⟩ <;> simp [counted, tot] <;> omega)
  | some d => rcases hw with rfl | rfl | rfl <;> (refine ⟨hd, by simp [counted, ht, setIn, turn], ?_⟩ <;> simp [counted, tot, setIn, turn] <;> omega)

theorem counted_keeps {a : Bay} (hd : a.dark = false) (ht : a.trip = none) (s : Int) (d : Dev) {what : Nat} (hw : what = 2 ∨ what = 3) : ((a.counted what).setIn s d).dark = false ∧ ((a.counted what).setIn s d).trip = none ∧ ((a.counted what).setIn s d).tot = a.tot + 1 := by
  rcases hw with rfl | rfl <;> (refine ⟨hd, by simp [counted, ht, setIn, turn], ?_⟩ <;> simp [counted, tot, setIn, turn] <;> omega)

theorem plain_keeps {a : Bay} (hd : a.dark = false) (ht : a.trip = none) {s : Int} (hs : a.is s = true) (k n : Int) (x : List Nat) : (a.plain k s n x).dark = false ∧ (a.plain k s n x).trip = none ∧ (a.plain k s n x).tot = a.tot + 1 := by
  unfold plain
  split
  · exact start_keeps hd ht hs (.inl rfl)
  · split
    · unfold write
      split
      · exact counted_keeps hd ht _ _ (.inl rfl)
      · exact start_keeps hd ht hs (.inr (.inl rfl))
    · unfold flush
      split
      · exact counted_keeps hd ht _ _ (.inr rfl)
      · exact start_keeps hd ht hs (.inr (.inr rfl))

/-- a: without a trip; b: with one of n; dark: whether it has been used up. -/
structure Twin (n : Nat) (a b : Bay) (dark : Bool) : Prop where
  lit : a.dark = false
  free : a.trip = none
  on : dark = false → a.tot ≤ n ∧ b = a.withTrip (n - a.tot)
  off : dark = true → b = a.darkened

theorem Twin.cut {n : Nat} {a b : Bay} {dark : Bool} (h : Twin n a b dark) (keeps : List (List Bool)) : a.cut keeps = b.cut keeps := by
  cases dark with
  | false => rw [(h.on rfl).2]; rfl
  | true => rw [h.off rfl]; rfl

theorem Twin.dark {n : Nat} {a b : Bay} {dark : Bool} (h : Twin n a b dark) : b.dark = dark ∧ a.reads = b.reads ∧ a.writes = b.writes ∧ a.flushes = b.flushes := by
  cases dark with
  | false => rw [(h.on rfl).2]; exact ⟨h.lit, rfl, rfl, rfl⟩
  | true => rw [h.off rfl]; exact ⟨rfl, rfl, rfl, rfl⟩

/-- One operation more that is answered. -/
theorem Twin.go {n : Nat} {a b : Bay} (h : Twin n a b false) (hn : a.tot < n) {s : Int} (hs : a.is s = true) (k m : Int) (x : List Nat) :
    Twin n (a.plain k s m x) (b.plain k s m x) false ∧ b.plainErr k s m x = a.plainErr k s m x ∧ b.plainVal k s m = a.plainVal k s m := by
  have h2 := (h.on rfl).2
  obtain ⟨q, hq⟩ : ∃ q, n - a.tot = q + 1 := ⟨n - a.tot - 1, by omega⟩
  rw [hq] at h2
  obtain ⟨h3, h4, h5⟩ := trip_plain h.lit h.free q hs k m x
  obtain ⟨h6, h7, h8⟩ := plain_keeps h.lit h.free hs k m x
  rw [h2, h3, h4, h5]
  exact ⟨⟨h6, h7, fun _ => ⟨by omega, by rw [show n - (a.plain k s m x).tot = q by omega]⟩, fun h => by cases h⟩, rfl, rfl⟩

/-- The one that finds it dark. -/
theorem Twin.ends {n : Nat} {a b : Bay} (h : Twin n a b false) (hn : a.tot = n) {s : Int} (hs : a.is s = true) (k m : Int) (x : List Nat) :
    Twin n a (b.plain k s m x) true ∧ b.plainErr k s m x = 50 ∧ b.plainVal k s m = [] := by
  have h2 := (h.on rfl).2
  rw [hn, Nat.sub_self] at h2
  obtain ⟨h3, h4, h5⟩ := zero_plain h.lit hs k m x
  rw [h2, h3, h4, h5]
  exact ⟨⟨h.lit, h.free, (fun h => by cases h), fun _ => rfl⟩, rfl, rfl⟩

theorem Twin.still {n : Nat} {a b : Bay} (h : Twin n a b true) {s : Int} (hs : a.is s = true) (k m : Int) (x : List Nat) :
    Twin n a (b.plain k s m x) true ∧ b.plainErr k s m x = 50 ∧ b.plainVal k s m = [] := by
  have h2 := h.off rfl
  obtain ⟨h3, h4, h5⟩ := dark_plain (a := a) hs k m x
  rw [h2, h3, h4, h5]
  exact ⟨⟨h.lit, h.free, (fun h => by cases h), fun _ => rfl⟩, rfl, rfl⟩

theorem Twin.new (sizes : List Int) (n : Nat) : Twin n (Bay.new sizes) ((Bay.new sizes).tripped n) false ∧ (Bay.new sizes).tripErr n = 0 := by
  have h1 : (Bay.new sizes).tripErr n = 0 := by
    unfold tripErr
    rw [if_neg (by omega)]
    rfl
  refine ⟨⟨rfl, rfl, fun _ => ⟨Nat.zero_le _, ?_⟩, fun h => by cases h⟩, h1⟩
  unfold tripped
  rw [if_pos h1]
  rfl

end Bay
end Go.Proofs.Ytljhpdgjajhgbaa
