/-
  The program's bay: disks that move within a slot: cut, Pull, Push. By an AI agent.
-/
import Derived.Test.YtljhpdgjajhgbaaByTray
import Derived.Test.YtljhpdgjajhgbaaByCalls
namespace Go.Proofs.Ytljhpdgjajhgbaa
open Go.RowKit Go.Maps

/-- A slot behind a cut. -/
def Slot.cutTo (keep : List Bool) (x : Slot) : Slot := match x.coming with
  | some c => { x with inn := some c, coming := none }
  | none => { x with inn := x.inn.map (fun d => d.lay (d.disk.crash keep)) }

theorem Bay.cutSlot_eq (keeps : List (List Bool)) (i : Nat) (x : Slot) : Bay.cutSlot keeps i x = x.cutTo (keeps.getD i []) := rfl

theorem Bay.turn_self {y : Bay} {i : Nat} {x : Slot} (hx : y.slots[i]? = some x) : y.turn i (fun _ => x) = y := by
  have : y.slots.modify i (fun _ => x) = y.slots := by
    apply List.ext_getElem?
    intro m
    rw [List.getElem?_modify]
    by_cases h : i = m
    · subst h
      rw [hx]
      simp
    · simp [h]
  unfold Bay.turn
  rw [Int.toNat_natCast, this]

theorem Dk.crash_clean {d : Dk} (h : d.Fit) (keep : List Bool) : (d.crash keep).cache = [] := by
  unfold Dk.crash
  split
  · rename_i hb
    exact h.off hb
  · rfl

section
variable {w w' : World} {b : Nat} {F : List Nat} {y : Bay} {bt : Nat} {vs : List Value} {ps : Nat → Nat → Option Nat} {Fs : Nat → Nat → List Nat} (hlt : ∀ k ∈ F, k < w.heap.size) (hf : y.Fit) (r : BRep w b F y bt vs ps Fs) {i : Nat} {x : Slot} (hx : y.slots[i]? = some x)
include hlt hf r hx

/-- The disk that is coming is in its slot. -/
theorem BRep.come {c : Dev} (hcm : x.coming = some c) (hc : Chg (bt :: Fs i 0) w w') (hb : Blk w' bt 74 ((vs.set (i * 3) (ptrV (ps i 2))).set (i * 3 + 2) (ptrV none))) :
    Turns w F (BayT b (y.turn i (fun _ => { x with inn := some c, coming := none }))) w' := by
  have hs := hf.slot hx
  have hi : i < y.slots.length := (List.getElem?_eq_some_iff.1 hx).1
  have hln := r.len
  have hoff : ∀ j, j ≠ 0 → ∀ q ∈ Fs i j, q ∉ bt :: Fs i 0 := fun j hj q hq hm => by
    rcases List.mem_cons.1 hm with h | h
    · exact (r.offb i j q hq).2 h
    · exact r.off i j i 0 (.inr hj) q hq h
  refine r.slot hlt hf hx { x with inn := some c, coming := none } ⟨fun d hd => ?_, fun d hd => ?_⟩ _ (fun j => if j = 0 then ps i 2 else if j = 2 then none else ps i j) (fun j => if j = 0 then Fs i 2 else if j = 2 then [] else Fs i j) (hc.mono (by intro q hq; simp at hq ⊢; rcases hq with h | h; exact .inl h; exact .inr (.inl h))) hb (by simp) (fun j hj => ?_) (fun a j ha hj => ?_) (fun j => ?_) (fun j q hq => ?_) (fun j j' hne q hq => ?_)
  · rcases hd with hd | hd | hd
    · obtain rfl : c = d := by simpa using hd
      exact hs.devs c (.inr (.inr hcm))
    · exact hs.devs d (.inr (.inl hd))
    · cases hd
  · rcases hd with hd | hd
    · exact hs.clean d (.inl hd)
    · cases hd
  · match j, hj with
    | 0, _ => rw [List.getElem?_set_ne (by omega), Nat.add_zero, List.getElem?_set_self (by omega)]; rfl
    | 1, _ => rw [List.getElem?_set_ne (by omega), List.getElem?_set_ne (by omega)]; exact r.ptr i 1 hi (by decide)
    | 2, _ => rw [List.getElem?_set_self (by simp; omega)]; rfl
  · rw [List.getElem?_set_ne (by omega), List.getElem?_set_ne (by omega)]
  · match j with
    | 0 =>
      have h1 := (r.dev i 2).chg hc (hoff 2 (by decide))
      rw [Bay.place_of hx, show x.get 2 = some c from hcm] at h1
      exact h1
    | 1 =>
      have h1 := (r.dev i 1).chg hc (hoff 1 (by decide))
      rw [Bay.place_of hx] at h1
      exact h1
    | 2 => exact PlaceIn.none _
    | m + 3 =>
      have h1 := (r.dev i (m + 3)).chg hc (hoff (m + 3) (by omega))
      rw [Bay.place_of hx] at h1
      rw [if_neg (by omega), if_neg (by omega), if_neg (by omega), if_neg (by omega)]
      exact h1
  · by_cases h0 : j = 0
    · rw [if_pos h0] at hq
      exact .inl ⟨2, hq⟩
    · rw [if_neg h0] at hq
      by_cases h2 : j = 2
      · rw [if_pos h2] at hq; cases hq
      · rw [if_neg h2] at hq
        exact .inl ⟨j, hq⟩
  · have key : ∀ j, ∃ s, (∀ q ∈ (if j = 0 then Fs i 2 else if j = 2 then [] else Fs i j), q ∈ Fs i s) ∧ s = if j = 0 then 2 else if j = 2 then 0 else j := fun j => by
      refine ⟨_, fun q hq => ?_, rfl⟩
      by_cases h0 : j = 0
      · rw [if_pos h0] at hq ⊢; exact hq
      · rw [if_neg h0] at hq ⊢
        by_cases h2 : j = 2
        · rw [if_pos h2] at hq; cases hq
        · rw [if_neg h2] at hq ⊢; exact hq
    obtain ⟨s, hs1, hs2⟩ := key j
    obtain ⟨s', hs1', hs2'⟩ := key j'
    intro hm
    refine r.off i s i s' (.inr ?_) q (hs1 q hq) (hs1' q hm)
    rw [hs2, hs2']
    split <;> split <;> (try split) <;> (try split) <;> omega

/-- The disk that was put aside is coming. -/
theorem BRep.push (hc : Chg [bt] w w') (hb : Blk w' bt 74 ((vs.set (i * 3 + 1) (ptrV none)).set (i * 3 + 2) (ptrV (ps i 1)))) :
    Turns w F (BayT b (y.turn i (fun _ => { x with aside := none, coming := x.aside }))) w' := by
  have hs := hf.slot hx
  have hi : i < y.slots.length := (List.getElem?_eq_some_iff.1 hx).1
  have hln := r.len
  have hoff : ∀ j, ∀ q ∈ Fs i j, q ∉ [bt] := fun j q hq hm => (r.offb i j q hq).2 (List.mem_singleton.1 hm)
  refine r.slot hlt hf hx { x with aside := none, coming := x.aside } ⟨fun d hd => ?_, fun d hd => ?_⟩ _ (fun j => if j = 1 then none else if j = 2 then ps i 1 else ps i j) (fun j => if j = 1 then [] else if j = 2 then Fs i 1 else Fs i j) (hc.mono (by simp)) hb (by simp) (fun j hj => ?_) (fun a j ha hj => ?_) (fun j => ?_) (fun j q hq => ?_) (fun j j' hne q hq => ?_)
  · rcases hd with hd | hd | hd
    · exact hs.devs d (.inl hd)
    · cases hd
    · exact hs.devs d (.inr (.inl hd))
  · rcases hd with hd | hd
    · cases hd
    · exact hs.clean d (.inl hd)
  · match j, hj with
    | 0, _ => rw [List.getElem?_set_ne (by omega), List.getElem?_set_ne (by omega)]; exact r.ptr i 0 hi (by decide)
    | 1, _ => rw [List.getElem?_set_ne (by omega), List.getElem?_set_self (by omega)]; rfl
    | 2, _ => rw [List.getElem?_set_self (by simp; omega)]; rfl
  · rw [List.getElem?_set_ne (by omega), List.getElem?_set_ne (by omega)]
  · match j with
    | 0 =>
      have h1 := (r.dev i 0).chg hc (hoff 0)
      rw [Bay.place_of hx] at h1
      exact h1
    | 1 => exact PlaceIn.none _
    | 2 =>
      have h1 := (r.dev i 1).chg hc (hoff 1)
      rw [Bay.place_of hx] at h1
      exact h1
    | m + 3 =>
      have h1 := (r.dev i (m + 3)).chg hc (hoff (m + 3))
      rw [Bay.place_of hx] at h1
      rw [if_neg (by omega), if_neg (by omega), if_neg (by omega), if_neg (by omega)]
      exact h1
  · by_cases h0 : j = 1
    · rw [if_pos h0] at hq; cases hq
    · rw [if_neg h0] at hq
      by_cases h2 : j = 2
      · rw [if_pos h2] at hq
        exact .inl ⟨1, hq⟩
      · rw [if_neg h2] at hq
        exact .inl ⟨j, hq⟩
  · have key : ∀ j, ∃ s, (∀ q ∈ (if j = 1 then [] else if j = 2 then Fs i 1 else Fs i j), q ∈ Fs i s) ∧ s = if j = 1 then 2 else if j = 2 then 1 else j := fun j => by
      refine ⟨_, fun q hq => ?_, rfl⟩
      by_cases h0 : j = 1
      · rw [if_pos h0] at hq; cases hq
      · rw [if_neg h0] at hq ⊢
        by_cases h2 : j = 2
        · rw [if_pos h2] at hq ⊢; exact hq
        · rw [if_neg h2] at hq ⊢; exact hq
    obtain ⟨s, hs1, hs2⟩ := key j
    obtain ⟨s', hs1', hs2'⟩ := key j'
    intro hm
    refine r.off i s i s' (.inr ?_) q (hs1 q hq) (hs1' q hm)
    rw [hs2, hs2']
    split <;> split <;> (try split) <;> (try split) <;> omega

/-- The disk in a slot is put aside. -/
theorem BRep.pull {k : Nat} {d : Dev} (hfit : d.disk.Fit ∧ ∀ n, d.wear = some n → n ≤ 9223372036854775807) (hcl : d.disk.cache = []) (G : List Nat) (hd : DevIn w' k G d) (hg : ∀ q ∈ G, q ∈ Fs i 0 ∨ w.heap.size ≤ q)
    (hc : Chg (bt :: Fs i 0) w w') (hb : Blk w' bt 74 ((vs.set (i * 3) (ptrV none)).set (i * 3 + 1) (ptrV (some k)))) :
    Turns w F (BayT b (y.turn i (fun _ => { x with inn := none, aside := some d }))) w' := by
  have hs := hf.slot hx
  have hi : i < y.slots.length := (List.getElem?_eq_some_iff.1 hx).1
  have hln := r.len
  have hoff : ∀ j, j ≠ 0 → ∀ q ∈ Fs i j, q ∉ bt :: Fs i 0 := fun j hj q hq hm => by
    rcases List.mem_cons.1 hm with h | h
    · exact (r.offb i j q hq).2 h
    · exact r.off i j i 0 (.inr hj) q hq h
  refine r.slot hlt hf hx { x with inn := none, aside := some d } ⟨fun e he => ?_, fun e he => ?_⟩ _ (fun j => if j = 0 then none else if j = 1 then some k else ps i j) (fun j => if j = 0 then [] else if j = 1 then G else Fs i j) (hc.mono (by intro q hq; simp at hq ⊢; rcases hq with h | h; exact .inl h; exact .inr (.inl h))) hb (by simp) (fun j hj => ?_) (fun a j ha hj => ?_) (fun j => ?_) (fun j q hq => ?_) (fun j j' hne q hq => ?_)
  · rcases he with he | he | he
    · cases he
    · obtain rfl : d = e := by simpa using he
      exact hfit
    · exact hs.devs e (.inr (.inr he))
  · rcases he with he | he
    · obtain rfl : d = e := by simpa using he
      exact hcl
    · exact hs.clean e (.inr he)
  · match j, hj with
    | 0, _ => rw [List.getElem?_set_ne (by omega), Nat.add_zero, List.getElem?_set_self (by omega)]; rfl
    | 1, _ => rw [List.getElem?_set_self (by simp; omega)]; rfl
    | 2, _ => rw [List.getElem?_set_ne (by omega), List.getElem?_set_ne (by omega)]; exact r.ptr i 2 hi (by decide)
  · rw [List.getElem?_set_ne (by omega), List.getElem?_set_ne (by omega)]
  · match j with
    | 0 => exact PlaceIn.none _
    | 1 => exact PlaceIn.some hd
    | 2 =>
      have h1 := (r.dev i 2).chg hc (hoff 2 (by decide))
      rw [Bay.place_of hx] at h1
      exact h1
    | m + 3 =>
      have h1 := (r.dev i (m + 3)).chg hc (hoff (m + 3) (by omega))
      rw [Bay.place_of hx] at h1
      rw [if_neg (by omega), if_neg (by omega), if_neg (by omega), if_neg (by omega)]
      exact h1
  · by_cases h0 : j = 0
    · rw [if_pos h0] at hq; cases hq
    · rw [if_neg h0] at hq
      by_cases h2 : j = 1
      · rw [if_pos h2] at hq
        exact (hg q hq).imp (fun h => ⟨0, h⟩) id
      · rw [if_neg h2] at hq
        exact .inl ⟨j, hq⟩
  · have key : ∀ j, ∃ s, (∀ q ∈ (if j = 0 then [] else if j = 1 then G else Fs i j), q ∈ Fs i s ∨ (j = 1 ∧ w.heap.size ≤ q)) ∧ s = if j = 0 then 1 else if j = 1 then 0 else j := fun j => by
      refine ⟨_, fun q hq => ?_, rfl⟩
      by_cases h0 : j = 0
      · rw [if_pos h0] at hq; cases hq
      · rw [if_neg h0] at hq ⊢
        by_cases h2 : j = 1
        · rw [if_pos h2] at hq ⊢
          exact (hg q hq).imp id (fun h => ⟨h2, h⟩)
        · rw [if_neg h2] at hq ⊢; exact .inl hq
    obtain ⟨s, hs1, hs2⟩ := key j
    obtain ⟨s', hs1', hs2'⟩ := key j'
    intro hm
    have hne2 : s ≠ s' := by
      rw [hs2, hs2']
      split <;> split <;> (try split) <;> (try split) <;> omega
    rcases hs1 q hq with h1 | ⟨h1, h2⟩
    · rcases hs1' q hm with h3 | ⟨h3, h4⟩
      · exact r.off i s i s' (.inr hne2) q h1 h3
      · have := hlt q (r.inF.2.2 i s q h1)
        omega
    · rcases hs1' q hm with h3 | ⟨h3, h4⟩
      · have := hlt q (r.inF.2.2 i s' q h3)
        omega
      · exact hne (h1.trans h3.symm)

end
end Go.Proofs.Ytljhpdgjajhgbaa
