/-
  The program's bay: how it lies in memory. By an AI agent.
-/
import Derived.Test.YtkafkdlgflkjgaaGreatBG
import Derived.Test.YtkafkdlgflkjgaaGreatBGSideMore
import Derived.Test.YtkafkdlgflkjgaaGreatBGInMore
import Derived.Test.YtkafkdlgflkjgaaGreatBXorSpec
import Derived.Test.YtkafkdlgflkjgaaGreatBDkCons
namespace Go.Proofs.YtkafkdlgflkjgaaGreat
open Go.RowKit

/-- A bay as it can be. -/
structure Bay.Fit (y : Bay) : Prop where
 len : 1 ≤ y.slots.length ∧ y.slots.length ≤ 17
 devs : ∀ x ∈ y.slots, ∀ d, (x.inn = some d ∨ x.aside = some d ∨ x.coming = some d) → d.disk.Fit ∧ ∀ n, d.wear = some n → n ≤ 9223372036854775807
 trip : ∀ n, y.trip = some n → n ≤ 9223372036854775807
 clean : ∀ x ∈ y.slots, ∀ d, x.aside = some d ∨ x.coming = some d → d.disk.cache = []

def I64 (n : Int) : Prop := -9223372036854775808 ≤ n ∧ n ≤ 9223372036854775807

/-- How many operations more, as it lies. -/
def alVals (n : Option Nat) : List Value := [.bool n.isSome, .int .i64 ((n.getD 0 : Nat) : Int)]

/-- A disk with its wear, at block k. -/
structure DevIn (w : World) (k : Nat) (F : List Nat) (e : Dev) : Prop where
 rep : ∃ g Fd, F = k :: Fd ∧ k ∉ Fd ∧ Blk w k 198 (.pointer (some ⟨g, 0, none⟩) :: alVals e.wear) ∧ (DiskT g e.disk Fd).P w

theorem DevIn.lt {w : World} {k : Nat} {F : List Nat} {e : Dev} (h : DevIn w k F e) : ∀ j ∈ F, j < w.heap.size := by
 obtain ⟨g, Fd, rfl, _, hb, hd⟩ := h.rep
 intro j hj
 rcases List.mem_cons.1 hj with rfl | hj
 ·exact hb.lt
 ·exact (DiskT g e.disk Fd).lt w hd j hj

theorem DevIn.chg {w w' : World} {s : List Nat} {k : Nat} {F : List Nat} {e : Dev} (h : DevIn w k F e) (c : Chg s w w') (hs : ∀ j ∈ F, j ∉ s) : DevIn w' k F e := by
 obtain ⟨g, Fd, rfl, hk, hb, hd⟩ := h.rep
 exact ⟨g, Fd, rfl, hk, hb.chg c (hs k (by simp)), (DiskT g e.disk Fd).stays w w' s hd c (fun j hj => hs j (List.mem_cons_of_mem _ hj))⟩

theorem DevIn.fit {w : World} {k : Nat} {F : List Nat} {e : Dev} (h : DevIn w k F e) : e.disk.Fit := by
 obtain ⟨g, Fd, _, _, _, hd⟩ := h.rep
 have h1 : DiskIn w g Fd e.disk := hd
 exact h1.fit

def DevT (k : Nat) (e : Dev) (F : List Nat) : Thing where
 F := F
 P := fun w => DevIn w k F e
 lt := fun _w h => h.lt
 stays := fun _w _w' _s h c hs => h.chg c hs

/-- A place for a disk. -/
def PlaceIn (w : World) (p : Option Nat) (F : List Nat) (e : Option Dev) : Prop :=
 (e = none ∧ p = none ∧ F = []) ∨ ∃ d k, e = some d ∧ p = some k ∧ DevIn w k F d

theorem PlaceIn.none (w : World) : PlaceIn w none [] none := .inl ⟨rfl, rfl, rfl⟩
theorem PlaceIn.some {w : World} {k : Nat} {F : List Nat} {e : Dev} (h : DevIn w k F e) : PlaceIn w (some k) F (some e) := .inr ⟨e, k, rfl, rfl, h⟩

theorem PlaceIn.lt {w : World} {p : Option Nat} {F : List Nat} {e : Option Dev} (h : PlaceIn w p F e) : ∀ j ∈ F, j < w.heap.size := by
 rcases h with ⟨_, _, rfl⟩ | ⟨d, k, _, _, h⟩
 ·intro j hj; cases hj
 ·exact h.lt

theorem PlaceIn.chg {w w' : World} {s : List Nat} {p : Option Nat} {F : List Nat} {e : Option Dev} (h : PlaceIn w p F e) (c : Chg s w w') (hs : ∀ j ∈ F, j ∉ s) : PlaceIn w' p F e := by
 rcases h with ⟨h1, h2, h3⟩ | ⟨d, k, h1, h2, h3⟩
 ·exact .inl ⟨h1, h2, h3⟩
 ·exact .inr ⟨d, k, h1, h2, h3.chg c hs⟩

theorem PlaceIn.isNone {w : World} {p : Option Nat} {F : List Nat} {e : Option Dev} (h : PlaceIn w p F e) (he : e = Option.none) : p = Option.none ∧ F = [] := by
 rcases h with ⟨_, h2, h3⟩ | ⟨d, k, h1, _⟩
 ·exact ⟨h2, h3⟩
 ·rw [he] at h1; cases h1

theorem PlaceIn.isSome {w : World} {p : Option Nat} {F : List Nat} {e : Option Dev} (h : PlaceIn w p F e) {d : Dev} (he : e = Option.some d) : ∃ k, p = Option.some k ∧ DevIn w k F d := by
 rcases h with ⟨h1, _⟩ | ⟨d2, k, h1, h2, h3⟩
 ·rw [he] at h1; cases h1
 ·rw [he] at h1
  obtain rfl : d = d2 := by simpa using h1
  exact ⟨k, h2, h3⟩

def Slot.get (x : Slot) : Nat → Option Dev
 | 0 => x.inn
 | 1 => x.aside
 | 2 => x.coming
 | _ => none

def Bay.place (y : Bay) (i j : Nat) : Option Dev := (y.slots[i]?).bind (·.get j)

def ptrV (p : Option Nat) : Value := .pointer (p.map fun k => ⟨k, 0, none⟩)

def bayVals (bt n : Nat) (y : Bay) : List Value := [.slice (some ⟨bt, 0, none⟩) n n, .bool y.dark] ++ alVals y.trip ++ [.int .i64 (y.reads : Int), .int .i64 (y.writes : Int), .int .i64 (y.flushes : Int)]

/-- How a bay of the program's lies: its own block, its slots' block, each slot's places. -/
structure BRep (w : World) (b : Nat) (F : List Nat) (y : Bay) (bt : Nat) (vs : List Value) (ps : Nat → Nat → Option Nat) (Fs : Nat → Nat → List Nat) : Prop where
 blk : Blk w b 143 (bayVals bt y.slots.length y)
 tr : Blk w bt 146 vs
 len : vs.length = y.slots.length * 3
 ptr : ∀ i j, i < y.slots.length → j < 3 → vs[i * 3 + j]? = some (ptrV (ps i j))
 dev : ∀ i j, PlaceIn w (ps i j) (Fs i j) (y.place i j)
 off : ∀ i j i' j', (i ≠ i' ∨ j ≠ j') → ∀ k ∈ Fs i j, k ∉ Fs i' j'
 offb : ∀ i j, ∀ k ∈ Fs i j, k ≠ b ∧ k ≠ bt
 ne : b ≠ bt
 inF : b ∈ F ∧ bt ∈ F ∧ ∀ i j, ∀ k ∈ Fs i j, k ∈ F

/-- A bay of the program's, at block b: its blocks, what it has. -/
structure BayIn (w : World) (b : Nat) (F : List Nat) (y : Bay) : Prop where
 lt : ∀ k ∈ F, k < w.heap.size
 fit : y.Fit
 rep : ∃ bt vs ps Fs, BRep w b F y bt vs ps Fs

theorem BRep.chg {w w' : World} {s : List Nat} {b : Nat} {F : List Nat} {y : Bay} {bt : Nat} {vs : List Value} {ps : Nat → Nat → Option Nat} {Fs : Nat → Nat → List Nat} (r : BRep w b F y bt vs ps Fs) (c : Chg s w w') (hs : ∀ k ∈ F, k ∉ s) : BRep w' b F y bt vs ps Fs :=
 ⟨r.blk.chg c (hs b r.inF.1), r.tr.chg c (hs bt r.inF.2.1), r.len, r.ptr, fun i j => (r.dev i j).chg c (fun k hk => hs k (r.inF.2.2 i j k hk)), r.off, r.offb, r.ne, r.inF⟩

def BayT (b : Nat) (y : Bay) (F : List Nat) : Thing where
 F := F
 P := fun w => BayIn w b F y
 lt := fun _w h => h.lt
 stays := fun w w' s h c hs => by
  obtain ⟨bt, vs, ps, Fs, r⟩ := h.rep
  exact ⟨fun k hk => Nat.lt_of_lt_of_le (h.lt k hk) c.size, h.fit, bt, vs, ps, Fs, r.chg c hs⟩

/-! ### slots and places -/

namespace Bay

theorem place_of {y : Bay} {i : Nat} {x : Slot} (h : y.slots[i]? = some x) (j : Nat) : y.place i j = x.get j := by
 unfold place
 rw [h]
 rfl

theorem turn_place {y : Bay} {i : Nat} (f : Slot → Slot) {x : Slot} (h : y.slots[i]? = some x) (j : Nat) : (y.turn i f).place i j = (f x).get j := by
 refine place_of ?_ j
 unfold turn
 rw [Int.toNat_natCast, List.getElem?_modify]
 simp [h]

theorem turn_place_other {y : Bay} {i : Nat} (f : Slot → Slot) {a : Nat} (h : a ≠ i) (j : Nat) : (y.turn i f).place a j = y.place a j := by
 unfold turn place
 rw [Int.toNat_natCast, List.getElem?_modify]
 simp [Ne.symm h]

theorem turn_slots (y : Bay) (i : Nat) (f : Slot → Slot) : (y.turn i f).slots = y.slots.modify i f := by
 unfold turn
 rw [Int.toNat_natCast]

theorem turn_const {y : Bay} {i : Nat} (f : Slot → Slot) {x : Slot} (h : y.slots[i]? = some x) : y.turn i f = y.turn i (fun _ => f x) := by
 unfold turn
 rw [Int.toNat_natCast]
 congr 1
 apply List.ext_getElem?
 intro m
 rw [List.getElem?_modify, List.getElem?_modify]
 by_cases hm : i = m
 ·subst hm
  rw [h]
  rfl
 ·simp [hm]

theorem dev_place {y : Bay} {i : Nat} (h : i < y.slots.length) : y.dev i = y.place i 0 := by
 unfold dev place
 rw [is_nat y h, if_pos rfl, Int.toNat_natCast]
 rfl

/-- Is a slot as it can be? -/
structure _root_.Go.Proofs.YtkafkdlgflkjgaaGreat.Slot.Fit (x : Slot) : Prop where
 devs : ∀ d, (x.inn = some d ∨ x.aside = some d ∨ x.coming = some d) → d.disk.Fit ∧ ∀ n, d.wear = some n → n ≤ 9223372036854775807
 clean : ∀ d, x.aside = some d ∨ x.coming = some d → d.disk.cache = []

theorem Fit.slot {y : Bay} (h : y.Fit) {i : Nat} {x : Slot} (hx : y.slots[i]? = some x) : x.Fit := ⟨h.devs x (List.mem_of_getElem? hx), h.clean x (List.mem_of_getElem? hx)⟩

theorem mem_modify_const {l : List Slot} {i : Nat} {x z : Slot} (h : z ∈ l.modify i (fun _ => x)) : z ∈ l ∨ z = x := by
 obtain ⟨m, hm⟩ := List.mem_iff_getElem?.1 h
 rw [List.getElem?_modify] at hm
 by_cases e : i = m
 ·simp only [e, if_true] at hm
  cases hl : l[m]? with
  | none => rw [hl] at hm; cases hm
  | some q => rw [hl] at hm; exact .inr (by simpa using hm.symm)
 ·simp only [e, if_false] at hm
  exact .inl (List.mem_of_getElem? (by simpa using hm))

theorem Fit.turnConst {y : Bay} (h : y.Fit) (i : Nat) {x : Slot} (hx : x.Fit) : (y.turn i (fun _ => x)).Fit := by
 refine ⟨by rw [turn_len]; exact h.len, fun z hz d hd => ?_, h.trip, fun z hz d hd => ?_⟩
 ·rw [turn_slots] at hz
  rcases mem_modify_const hz with hz | rfl
  ·exact h.devs z hz d hd
  ·exact hx.devs d hd
 ·rw [turn_slots] at hz
  rcases mem_modify_const hz with hz | rfl
  ·exact h.clean z hz d hd
  ·exact hx.clean d hd

end Bay

theorem bayVals_turn (bt : Nat) (y : Bay) (i : Nat) (f : Slot → Slot) : bayVals bt (y.turn i f).slots.length (y.turn i f) = bayVals bt y.slots.length y := by
 rw [Bay.turn_len]
 rfl

/-- ONE SLOT BECOMES ANOTHER: its places in the blocks that it had, and in new ones. -/
theorem BRep.slotRep {w w' : World} {b : Nat} {F : List Nat} {y : Bay} {bt : Nat} {vs : List Value} {ps : Nat → Nat → Option Nat} {Fs : Nat → Nat → List Nat} (hlt : ∀ k ∈ F, k < w.heap.size) (hf : y.Fit) (r : BRep w b F y bt vs ps Fs)
 {i : Nat} {x : Slot} (hx : y.slots[i]? = some x) (x' : Slot) (hx' : x'.Fit) (vs' : List Value) (qs : Nat → Option Nat) (Gs : Nat → List Nat)
 (hc : Chg (bt :: (Fs i 0 ++ Fs i 1 ++ Fs i 2)) w w') (hb : Blk w' bt 146 vs') (hl : vs'.length = vs.length)
 (hv : ∀ j, j < 3 → vs'[i * 3 + j]? = some (ptrV (qs j))) (ho : ∀ a j, a ≠ i → j < 3 → vs'[a * 3 + j]? = vs[a * 3 + j]?)
 (hd : ∀ j, PlaceIn w' (qs j) (Gs j) (x'.get j)) (hg : ∀ j k, k ∈ Gs j → (∃ j', k ∈ Fs i j') ∨ w.heap.size ≤ k) (hxx : ∀ j j', j ≠ j' → ∀ k ∈ Gs j, k ∉ Gs j') :
 ∃ F', (∀ k ∈ F', k < w'.heap.size) ∧ (y.turn i (fun _ => x')).Fit ∧ BRep w' b F' (y.turn i (fun _ => x')) bt vs' (fun a j => if a = i then qs j else ps a j) (fun a j => if a = i then Gs j else Fs a j) ∧ (∀ k ∈ F', k ∈ F ∨ w.heap.size ≤ k) ∧ Chg F w w' := by
 have hi : i < y.slots.length := (List.getElem?_eq_some_iff.1 hx).1
 have hG3 : ∀ j, ¬ j < 3 → Gs j = [] := fun j hj => by
  have h1 := hd j
  have h2 : x'.get j = none := by
   match j, hj with
   | 0, h => exact absurd (by decide) h
   | 1, h => exact absurd (by decide) h
   | 2, h => exact absurd (by decide) h
   | _ + 3, _ => rfl
  exact (h1.isNone h2).2
 have hF3 : ∀ j k, k ∈ Fs i j → k ∈ Fs i 0 ++ Fs i 1 ++ Fs i 2 := fun j k hk => by
  match j, hk with
  | 0, h => simp [h]
  | 1, h => simp [h]
  | 2, h => simp [h]
  | m + 3, h =>
    have h2 : y.place i (m + 3) = none := by rw [Bay.place_of hx]; rfl
    rw [((r.dev i (m + 3)).isNone h2).2] at h
    cases h
 have hbF := r.inF.1
 have hbn : b ∉ bt :: (Fs i 0 ++ Fs i 1 ++ Fs i 2) := by
  intro h
  rcases List.mem_cons.1 h with h | h
  ·exact r.ne h
  ·simp only [List.mem_append] at h
   rcases h with (h | h) | h <;> exact (r.offb _ _ b h).1 rfl
 have hold : ∀ a j, a ≠ i → ∀ k ∈ Fs a j, k ∉ bt :: (Fs i 0 ++ Fs i 1 ++ Fs i 2) := by
  intro a j ha k hk h
  rcases List.mem_cons.1 h with h | h
  ·exact (r.offb a j k hk).2 h
  ·simp only [List.mem_append] at h
   rcases h with (h | h) | h <;> exact r.off a j i _ (.inl ha) k hk h
 have hgF : ∀ j k, k ∈ Gs j → k ∈ F ∨ w.heap.size ≤ k := fun j k hk => (hg j k hk).imp (fun ⟨j', h⟩ => r.inF.2.2 i j' k h) id
 have hGb : ∀ j k, k ∈ Gs j → k ≠ b ∧ k ≠ bt := fun j k hk => by
  rcases hg j k hk with ⟨j', h⟩ | h
  ·exact r.offb i j' k h
  ·have h1 := hlt b r.inF.1
   have h2 := hlt bt r.inF.2.1
   exact ⟨by omega, by omega⟩
 have hGo : ∀ a j j', a ≠ i → ∀ k ∈ Gs j, k ∉ Fs a j' := fun a j j' ha k hk hm => by
  rcases hg j k hk with ⟨j2, h⟩ | h
  ·exact r.off i j2 a j' (.inl (Ne.symm ha)) k h hm
  ·have := hlt k (r.inF.2.2 a j' k hm)
   omega
 refine ⟨F ++ (Gs 0 ++ Gs 1 ++ Gs 2), fun k hk => ?_, hf.turnConst i hx', ⟨?_, hb, ?_, fun a j ha hj => ?_, fun a j => ?_, fun a j a' j' hne k hk => ?_, fun a j k hk => ?_, r.ne, List.mem_append_left _ r.inF.1, List.mem_append_left _ r.inF.2.1, fun a j k hk => ?_⟩, fun k hk => ?_, hc.mono (fun k hk => ?_)⟩
 ·rcases List.mem_append.1 hk with hk | hk
  ·exact Nat.lt_of_lt_of_le (hlt k hk) hc.size
  ·simp only [List.mem_append] at hk
   rcases hk with (hk | hk) | hk <;> exact (hd _).lt k hk
 ·rw [bayVals_turn]
  exact r.blk.chg hc hbn
 ·rw [Bay.turn_len, hl]
  exact r.len
 ·rw [Bay.turn_len] at ha
  by_cases e : a = i
  ·subst e
   rw [if_pos rfl]
   exact hv j hj
  ·rw [if_neg e, ho a j e hj]
   exact r.ptr a j ha hj
 ·by_cases e : a = i
  ·subst e
   rw [if_pos rfl, if_pos rfl, Bay.turn_place _ hx]
   exact hd j
  ·rw [if_neg e, if_neg e, Bay.turn_place_other _ e]
   exact (r.dev a j).chg hc (hold a j e)
 ·by_cases e : a = i
  ·rw [if_pos e] at hk
   by_cases e' : a' = i
   ·rw [if_pos e']
    exact hxx j j' (hne.resolve_left (fun h => h (e.trans e'.symm))) k hk
   ·rw [if_neg e']
    exact hGo a' j j' e' k hk
  ·rw [if_neg e] at hk
   by_cases e' : a' = i
   ·rw [if_pos e']
    intro hm
    exact hGo a j' j e k hm hk
   ·rw [if_neg e']
    exact r.off a j a' j' hne k hk
 ·by_cases e : a = i
  ·rw [if_pos e] at hk
   exact hGb j k hk
  ·rw [if_neg e] at hk
   exact r.offb a j k hk
 ·by_cases e : a = i
  ·rw [if_pos e] at hk
   by_cases hj : j < 3
   ·refine List.mem_append_right _ ?_
    match j, hj, hk with
    | 0, _, h => simp [h]
    | 1, _, h => simp [h]
    | 2, _, h => simp [h]
   ·rw [hG3 j hj] at hk
    cases hk
  ·rw [if_neg e] at hk
   exact List.mem_append_left _ (r.inF.2.2 a j k hk)
 ·rcases List.mem_append.1 hk with hk | hk
  ·exact .inl hk
  ·simp only [List.mem_append] at hk
   rcases hk with (hk | hk) | hk <;> exact hgF _ k hk
 ·rcases List.mem_cons.1 hk with rfl | hk
  ·exact r.inF.2.1
  ·simp only [List.mem_append] at hk
   rcases hk with (hk | hk) | hk <;> exact r.inF.2.2 i _ k hk

theorem BRep.slot {w w' : World} {b : Nat} {F : List Nat} {y : Bay} {bt : Nat} {vs : List Value} {ps : Nat → Nat → Option Nat} {Fs : Nat → Nat → List Nat} (hlt : ∀ k ∈ F, k < w.heap.size) (hf : y.Fit) (r : BRep w b F y bt vs ps Fs)
 {i : Nat} {x : Slot} (hx : y.slots[i]? = some x) (x' : Slot) (hx' : x'.Fit) (vs' : List Value) (qs : Nat → Option Nat) (Gs : Nat → List Nat)
 (hc : Chg (bt :: (Fs i 0 ++ Fs i 1 ++ Fs i 2)) w w') (hb : Blk w' bt 146 vs') (hl : vs'.length = vs.length)
 (hv : ∀ j, j < 3 → vs'[i * 3 + j]? = some (ptrV (qs j))) (ho : ∀ a j, a ≠ i → j < 3 → vs'[a * 3 + j]? = vs[a * 3 + j]?)
 (hd : ∀ j, PlaceIn w' (qs j) (Gs j) (x'.get j)) (hg : ∀ j k, k ∈ Gs j → (∃ j', k ∈ Fs i j') ∨ w.heap.size ≤ k) (hxx : ∀ j j', j ≠ j' → ∀ k ∈ Gs j, k ∉ Gs j') :
 Turns w F (BayT b (y.turn i (fun _ => x'))) w' := by
 obtain ⟨F', h1, h2, h3, h4, h5⟩ := r.slotRep hlt hf hx x' hx' vs' qs Gs hc hb hl hv ho hd hg hxx
 exact ⟨F', ⟨h1, h2, bt, vs', _, _, h3⟩, h4, h5⟩

/-- The bay's own block becomes another. -/
theorem BRep.head {w w' : World} {b : Nat} {F : List Nat} {y y' : Bay} {bt : Nat} {vs : List Value} {ps : Nat → Nat → Option Nat} {Fs : Nat → Nat → List Nat} (r : BRep w b F y bt vs ps Fs)
 (hs : y'.slots = y.slots) (hc : Chg [b] w w') (hb : Blk w' b 143 (bayVals bt y.slots.length y')) : BRep w' b F y' bt vs ps Fs :=
 ⟨by rw [hs]; exact hb, r.tr.chg hc (by simpa using Ne.symm r.ne), by rw [hs]; exact r.len, by rw [hs]; exact r.ptr, fun i j => by
  have : y'.place i j = y.place i j := by unfold Bay.place; rw [hs]
  rw [this]
  exact (r.dev i j).chg hc (fun k hk => by simpa using (r.offb i j k hk).1), r.off, r.offb, r.ne, r.inF⟩

/-- The disk in a slot becomes another, in its own blocks and in new ones. -/
theorem BRep.innRep {w w' : World} {b : Nat} {F : List Nat} {y : Bay} {bt : Nat} {vs : List Value} {ps : Nat → Nat → Option Nat} {Fs : Nat → Nat → List Nat} (hlt : ∀ k ∈ F, k < w.heap.size) (hf : y.Fit) (r : BRep w b F y bt vs ps Fs)
 {i k : Nat} {x : Slot} (hx : y.slots[i]? = some x) (hk : ps i 0 = some k) (e' : Dev) (he : e'.disk.Fit ∧ ∀ n, e'.wear = some n → n ≤ 9223372036854775807) (G : List Nat)
 (hd : DevIn w' k G e') (hg : ∀ j ∈ G, j ∈ Fs i 0 ∨ w.heap.size ≤ j) (hc : Chg (Fs i 0) w w') :
 ∃ F' ps' Fs', (∀ q ∈ F', q < w'.heap.size) ∧ (y.setIn i e').Fit ∧ BRep w' b F' (y.setIn i e') bt vs ps' Fs' ∧ ps' i 0 = some k ∧ Fs' i 0 = G ∧ (∀ q ∈ F', q ∈ F ∨ w.heap.size ≤ q) ∧ Chg F w w' := by
 have hs := hf.slot hx
 have hi : i < y.slots.length := (List.getElem?_eq_some_iff.1 hx).1
 have e1 : y.setIn i e' = y.turn i (fun _ => { x with inn := some e' }) := Bay.turn_const (fun x => { x with inn := some e' }) hx
 rw [e1]
 have hoff : ∀ j, j ≠ 0 → ∀ q ∈ Fs i j, q ∉ Fs i 0 := fun j hj q hq => r.off i j i 0 (.inr hj) q hq
 suffices H : ∃ F', (∀ q ∈ F', q < w'.heap.size) ∧ (y.turn i (fun _ => { x with inn := some e' })).Fit ∧ BRep w' b F' (y.turn i (fun _ => { x with inn := some e' })) bt vs (fun a j => if a = i then ps i j else ps a j) (fun a j => if a = i then (if j = 0 then G else Fs i j) else Fs a j) ∧ (∀ q ∈ F', q ∈ F ∨ w.heap.size ≤ q) ∧ Chg F w w' by
  obtain ⟨F', h1, h2, h3, h4, h5⟩ := H
  exact ⟨F', _, _, h1, h2, h3, by rw [if_pos rfl]; exact hk, by rw [if_pos rfl, if_pos rfl], h4, h5⟩
 refine r.slotRep hlt hf hx { x with inn := some e' } ⟨fun d hd => ?_, hs.clean⟩ vs (ps i) (fun j => if j = 0 then G else Fs i j) (hc.mono (by simp; intro q hq; exact .inr (.inl hq))) (r.tr.chg hc (fun hm => (r.offb i 0 bt hm).2 rfl)) rfl (fun j hj => r.ptr i j hi hj) (fun _ _ _ _ => rfl) (fun j => ?_) (fun j q hq => ?_) (fun j j' hne q hq => ?_)
 ·rcases hd with hd | hd | hd
  ·obtain rfl : e' = d := by simpa using hd
   exact he
  ·exact hs.devs d (.inr (.inl hd))
  ·exact hs.devs d (.inr (.inr hd))
 ·by_cases h0 : j = 0
  ·subst h0
   rw [if_pos rfl, hk]
   exact PlaceIn.some hd
  ·rw [if_neg h0]
   have h1 := (r.dev i j).chg hc (hoff j h0)
   rw [Bay.place_of hx] at h1
   match j, h0, h1 with
   | 0, h, _ => exact absurd rfl h
   | 1, _, h => exact h
   | 2, _, h => exact h
   | _ + 3, _, h => exact h
 ·by_cases h0 : j = 0
  ·rw [if_pos h0] at hq
   exact (hg q hq).imp (fun h => ⟨0, h⟩) id
  ·rw [if_neg h0] at hq
   exact .inl ⟨j, hq⟩
 ·have hnew : ∀ j, j ≠ 0 → ∀ q ∈ G, q ∉ Fs i j := fun j hj q hq hm => by
   rcases hg q hq with h | h
   ·exact r.off i 0 i j (.inr (Ne.symm hj)) q h hm
   ·have := hlt q (r.inF.2.2 i j q hm)
    omega
  by_cases h0 : j = 0
  ·rw [if_pos h0] at hq
   rw [if_neg (fun h => hne (h0.trans h.symm))]
   exact hnew j' (fun h => hne (h0.trans h.symm)) q hq
  ·rw [if_neg h0] at hq
   by_cases h1 : j' = 0
   ·rw [if_pos h1]
    exact fun hm => hnew j h0 q hm hq
   ·rw [if_neg h1]
    exact r.off i j i j' (.inr hne) q hq

theorem BRep.inn {w w' : World} {b : Nat} {F : List Nat} {y : Bay} {bt : Nat} {vs : List Value} {ps : Nat → Nat → Option Nat} {Fs : Nat → Nat → List Nat} (hlt : ∀ k ∈ F, k < w.heap.size) (hf : y.Fit) (r : BRep w b F y bt vs ps Fs)
 {i k : Nat} {x : Slot} (hx : y.slots[i]? = some x) (hk : ps i 0 = some k) (e' : Dev) (he : e'.disk.Fit ∧ ∀ n, e'.wear = some n → n ≤ 9223372036854775807) (G : List Nat)
 (hd : DevIn w' k G e') (hg : ∀ j ∈ G, j ∈ Fs i 0 ∨ w.heap.size ≤ j) (hc : Chg (Fs i 0) w w') : Turns w F (BayT b (y.setIn i e')) w' := by
 obtain ⟨F', ps', Fs', h1, h2, h3, _, _, h4, h5⟩ := r.innRep hlt hf hx hk e' he G hd hg hc
 exact ⟨F', ⟨h1, h2, bt, vs, ps', Fs', h3⟩, h4, h5⟩

end Go.Proofs.YtkafkdlgflkjgaaGreat

/-
  The program's bay: its small calls. By an AI agent.
-/
namespace Go.Proofs.YtkafkdlgflkjgaaGreat
open Go.RowKit Go.Maps

section
variable (b bt n : Nat) (w : World) (c0 : w.cell? ⟨b, 0, none⟩ = some (.slice (some ⟨bt, 0, none⟩) n n))
include c0

set_option maxHeartbeats 1000000 in
set_option maxRecDepth 100000 in
theorem tray_in (i : Nat) (hi : i < n) :
 Calls Tryz.prog 92 #[.pointer (some ⟨b, 0, none⟩), .int .i64 (i : Int)] w fun e w' => e = .returned (.pointer (some ⟨bt, i * 3, none⟩)) ∧ w' = w := by
 have h1 : (0 : Int) ≤ i := Int.natCast_nonneg _
 have h2 : ¬ (i : Int) < 0 := by omega
 have h3 : (i : Int) < n := by omega
 have h4 : ¬ (n : Int) ≤ i := by omega
 go_enter Tryz.func92, Tryz.ntmps92
 go_wp2_with fail
 go_ret
 exact ⟨rfl, rfl⟩

set_option maxHeartbeats 1000000 in
set_option maxRecDepth 100000 in
theorem tray_out (s : Int) (hs : I64 s) (ho : s < 0 ∨ (n : Int) ≤ s) :
 Calls Tryz.prog 92 #[.pointer (some ⟨b, 0, none⟩), .int .i64 s] w fun e w' => e = .returned (.pointer none) ∧ w' = w := by
 obtain ⟨hs1, hs2⟩ := hs
 by_cases h1 : s < 0
 ·clear ho
  go_enter Tryz.func92, Tryz.ntmps92
  go_wp2_with fail
  go_ret
  exact ⟨rfl, rfl⟩
 ·have h2 : (n : Int) ≤ s := by omega
  clear ho
  go_enter Tryz.func92, Tryz.ntmps92
  go_wp2_with fail
  go_ret
  exact ⟨rfl, rfl⟩

set_option maxHeartbeats 1000000 in
set_option maxRecDepth 100000 in
theorem drive_out (s : Int) (hs : I64 s) (ho : s < 0 ∨ (n : Int) ≤ s) :
 Calls Tryz.prog 119 #[.pointer (some ⟨b, 0, none⟩), .int .i64 s] w fun e w' => e = .returned (.tuple #[.pointer none, .int .u16 1]) ∧ w' = w := by
 have T := Lib.hid (tray_out b bt n w c0 s hs ho)
 clear hs ho c0
 go_enter Tryz.func119, Tryz.ntmps119
 go_wp2_with fail
 refine T.out.mono ?_
 rintro e w1 ⟨rfl, hw⟩
 subst hw
 clear T
 go_wp2_with fail
 go_ret2
 exact ⟨rfl, rfl⟩

set_option maxHeartbeats 1000000 in
set_option maxRecDepth 100000 in
theorem drive_in (i : Nat) (hi : i < n) (p : Option Nat) (cp : w.cell? ⟨bt, i * 3, none⟩ = some (ptrV p)) :
 Calls Tryz.prog 119 #[.pointer (some ⟨b, 0, none⟩), .int .i64 (i : Int)] w fun e w' => e = .returned (.tuple #[ptrV p, .int .u16 (if p = none then 51 else 0)]) ∧ w' = w := by
 have T := Lib.hid (tray_in b bt n w c0 i hi)
 clear hi c0
 cases p with
 | none =>
   have cp' : w.cell? ⟨bt, i * 3, none⟩ = some (.pointer none) := cp
   clear cp
   go_enter Tryz.func119, Tryz.ntmps119
   go_wp2_with fail
   refine T.out.mono ?_
   rintro e w1 ⟨rfl, hw⟩
   subst hw
   clear T
   go_wp2_with fail
   go_ret2
   exact ⟨rfl, rfl⟩
 | some k =>
   have cp' : w.cell? ⟨bt, i * 3, none⟩ = some (.pointer (some ⟨k, 0, none⟩)) := cp
   clear cp
   go_enter Tryz.func119, Tryz.ntmps119
   go_wp2_with fail
   refine T.out.mono ?_
   rintro e w1 ⟨rfl, hw⟩
   subst hw
   clear T
   go_wp2_with fail
   go_ret2
   exact ⟨rfl, rfl⟩

end

set_option maxHeartbeats 1000000 in
set_option maxRecDepth 100000 in
theorem running_none (t o : Nat) (w : World) (cp : w.cell? ⟨t, o, none⟩ = some (.pointer none)) :
 Calls Tryz.prog 208 #[.pointer (some ⟨t, o, none⟩)] w fun e w' => e = .returned (.bool false) ∧ ∃ q, w' = w.drewN q := by
 go_enter Tryz.func208, Tryz.ntmps208
 go_wp2_with fail
 go_ret
 exact ⟨rfl, 0, rfl⟩

set_option maxHeartbeats 1000000 in
set_option maxRecDepth 100000 in
theorem running_some (t o k : Nat) (F : List Nat) (e0 : Dev) (w : World) (cp : w.cell? ⟨t, o, none⟩ = some (.pointer (some ⟨k, 0, none⟩))) (h : (DevT k e0 F).P w) :
 Calls Tryz.prog 208 #[.pointer (some ⟨t, o, none⟩)] w fun e w' => e = .returned (.bool (!e0.disk.bad)) ∧ ∃ q, w' = w.drewN q := by
 have h' : DevIn w k F e0 := h
 obtain ⟨g, Fd, _, _, hb, hd⟩ := h'.rep
 have cd := hb.cell (j := 0) rfl
 have T := Lib.hid (dfailed_any g Fd e0.disk w hd)
 generalize e0.disk.bad = bad at *
 clear h h' hb hd
 go_enter Tryz.func208, Tryz.ntmps208
 go_wp2_with fail
 refine T.out.mono ?_
 rintro e w1 ⟨rfl, q, hw⟩
 clear T
 go_wp2_with fail
 go_ret
 exact ⟨rfl, q, rfl⟩

/-- What 'spend' leaves of an allowance, and what it says. -/
def spent (n : Option Nat) : Option Nat := match n with
 | some 0 => none
 | some (m + 1) => some m
 | none => none

set_option maxHeartbeats 1000000 in
set_option maxRecDepth 100000 in
theorem spend_any (g o : Nat) (t : TypeId) (vs : List Value) (n : Option Nat) (w : World) (B : Blk w g t vs) (v0 : vs[o]? = some (.bool n.isSome)) (v1 : vs[o + 1]? = some (.int .i64 ((n.getD 0 : Nat) : Int))) (hn : ∀ m, n = some m → m ≤ 9223372036854775807) :
 Calls Tryz.prog 243 #[.pointer (some ⟨g, o, none⟩)] w fun e w' => e = .returned (.bool (n == some 0)) ∧
  Hid (Blk w' g t ((vs.set o (.bool (spent n).isSome)).set (o + 1) (.int .i64 (((spent n).getD 0 : Nat) : Int)))) ∧ Hid (Chg [g] w w') := by
 have c0 := B.cell v0
 have c1 := B.cell v1
 have f0 := B.free o
 have f1 := B.free (o + 1)
 have hl0 := (List.getElem?_eq_some_iff.1 v0).1
 have hl1 := (List.getElem?_eq_some_iff.1 v1).1
 match n, hn with
 | none, _ =>
   have E : Hid (Blk w g t ((vs.set o (.bool (spent none).isSome)).set (o + 1) (.int .i64 (((spent none).getD 0 : Nat) : Int)))) := by
    have e0 : vs.set o (.bool (spent none).isSome) = vs := by
     obtain ⟨h, e⟩ := List.getElem?_eq_some_iff.1 v0
     rw [show (Value.bool (spent none).isSome) = vs[o] from e.symm]
     exact List.set_getElem_self h
    have e1 : vs.set (o + 1) (.int .i64 (((spent none).getD 0 : Nat) : Int)) = vs := by
     obtain ⟨h, e⟩ := List.getElem?_eq_some_iff.1 v1
     rw [show (Value.int .i64 (((spent none).getD 0 : Nat) : Int)) = vs[o + 1] from e.symm]
     exact List.set_getElem_self h
    show Blk _ _ _ _
    rw [e0, e1]
    exact B
   have c0' : w.cell? ⟨g, o, none⟩ = some (.bool false) := c0
   clear B v0 v1 c0 c1 f0 f1 hl0 hl1
   go_enter Tryz.func243, Tryz.ntmps243
   go_wp2_with fail
   go_ret
   exact ⟨rfl, E, Chg.refl _ _⟩
 | some 0, _ =>
   have c0' : w.cell? ⟨g, o, none⟩ = some (.bool true) := c0
   have c1' : w.cell? ⟨g, o + 1, none⟩ = some (.int .i64 0) := c1
   have E : Hid (Blk ((w.setCell ⟨g, o, none⟩ (.bool false)).setCell ⟨g, o + 1, none⟩ (.int .i64 0)) g t ((vs.set o (.bool (spent (some 0)).isSome)).set (o + 1) (.int .i64 (((spent (some 0)).getD 0 : Nat) : Int)))) := (B.set o (.bool false)).set (o + 1) (.int .i64 0)
   have C : Hid (Chg [g] w ((w.setCell ⟨g, o, none⟩ (.bool false)).setCell ⟨g, o + 1, none⟩ (.int .i64 0))) := ((Chg.refl _ _).setCell (.inl (by simp)) _).setCell (.inl (by simp)) _
   clear B v0 v1 c0 c1 hl0 hl1
   go_enter Tryz.func243, Tryz.ntmps243
   go_wp2_with fail
   go_ret
   exact ⟨rfl, E, C⟩
 | some (m + 1), hn =>
   have hm := hn (m + 1) rfl
   have c0' : w.cell? ⟨g, o, none⟩ = some (.bool true) := c0
   obtain ⟨M, hM⟩ : ∃ M : Int, M = ((m + 1 : Nat) : Int) := ⟨_, rfl⟩
   have c1' : w.cell? ⟨g, o + 1, none⟩ = some (.int .i64 M) := by rw [hM]; exact c1
   have hM1 : ¬ M = 0 := by omega
   have hM2 : 0 < M := by omega
   have hM3 : M ≤ 9223372036854775807 := by omega
   have E : Hid (Blk (w.setCell ⟨g, o + 1, none⟩ (.int .i64 (M - 1))) g t ((vs.set o (.bool (spent (some (m + 1))).isSome)).set (o + 1) (.int .i64 (((spent (some (m + 1))).getD 0 : Nat) : Int)))) := by
    have e0 : vs.set o (.bool (spent (some (m + 1))).isSome) = vs := by
     obtain ⟨h, e⟩ := List.getElem?_eq_some_iff.1 v0
     rw [show (Value.bool (spent (some (m + 1))).isSome) = vs[o] from e.symm]
     exact List.set_getElem_self h
    show Blk _ _ _ _
    rw [e0, show ((((spent (some (m + 1))).getD 0 : Nat)) : Int) = M - 1 from by show (m : Int) = M - 1; omega]
    exact B.set (o + 1) _
   have C : Hid (Chg [g] w (w.setCell ⟨g, o + 1, none⟩ (.int .i64 (M - 1)))) := (Chg.refl _ _).setCell (.inl (by simp)) _
   have e1 : (some (m + 1) == some 0) = false := by simp
   rw [e1]
   clear B v0 v1 c0 c1 hl0 hl1 e1
   replace hM := Lib.hid hM
   go_enter Tryz.func243, Tryz.ntmps243
   go_wp2_with fail
   go_ret
   exact ⟨rfl, E, C⟩

theorem Turns.same {w : World} {F : List Nat} {T : List Nat → Thing} (h : (T F).P w) (hF : (T F).F = F) : Turns w F T w := ⟨F, h, fun k hk => .inl (by rw [hF] at hk; exact hk), Chg.refl _ _⟩

theorem Bay.Fit.same {y y' : Bay} (h : y.Fit) (hs : y'.slots = y.slots) (ht : ∀ n, y'.trip = some n → n ≤ 9223372036854775807) : y'.Fit :=
 ⟨by rw [hs]; exact h.len, by rw [hs]; exact h.devs, ht, by rw [hs]; exact h.clean⟩

theorem BRep.headTurns {w w' : World} {b : Nat} {F : List Nat} {y y' : Bay} {bt : Nat} {vs : List Value} {ps : Nat → Nat → Option Nat} {Fs : Nat → Nat → List Nat} (hlt : ∀ k ∈ F, k < w.heap.size) (hf : y'.Fit) (r : BRep w b F y bt vs ps Fs)
 (hs : y'.slots = y.slots) (hc : Chg [b] w w') (hb : Blk w' b 143 (bayVals bt y.slots.length y')) : Turns w F (BayT b y') w' :=
 ⟨F, ⟨fun k hk => Nat.lt_of_lt_of_le (hlt k hk) hc.size, hf, bt, vs, ps, Fs, r.head hs hc hb⟩, fun k hk => .inl hk, hc.mono (by intro k hk; rw [List.mem_singleton.1 hk]; exact r.inF.1)⟩

end Go.Proofs.YtkafkdlgflkjgaaGreat
