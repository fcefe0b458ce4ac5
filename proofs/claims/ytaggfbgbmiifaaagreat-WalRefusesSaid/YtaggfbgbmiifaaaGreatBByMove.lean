/-
  The program's bay: disks that move within a slot: cut, Pull, Push. By an AI agent.
-/
import Derived.Test.YtaggfbgbmiifaaaGreatBByCalls
import Derived.Test.YtaggfbgbmiifaaaGreatBGInMore
namespace Go.Proofs.YtaggfbgbmiifaaaGreat
open Go.RowKit Go.Maps

/-- A slot behind a cut. -/
def Slot.cutTo (keep : List Bool) (x : Slot) : Slot := match x.coming with
  | some c => { x with inn := some c, coming := none }
  | none => { x with inn := x.inn.map (fun d => d.lay (d.disk.crash keep)) }

theorem Bay.cutSlot_eq (keeps : List (List Bool)) (i : Nat) (x : Slot) : Bay.cutSlot keeps i x = x.cutTo (keeps.getD i []) := rfl

theorem Bay.turn_self {y : Bay} {i : Nat} {x : Slot} (hx : y.slots[i]? = some x) : y.turn i (fun _ => x) = y := by
  have : y.slots.modify i (fun _ => x) = y.slots := by
    apply List.ext_getElem?
    intro m
    rw [List.getElem?_modify]
    by_cases h : i = m
    · subst h
      rw [hx]
      simp
    · simp [h]
  unfold Bay.turn
  rw [Int.toNat_natCast, this]

section
variable {w w' : World} {b : Nat} {F : List Nat} {y : Bay} {bt : Nat} {vs : List Value} {ps : Nat → Nat → Option Nat} {Fs : Nat → Nat → List Nat} (hlt : ∀ k ∈ F, k < w.heap.size) (hf : y.Fit) (r : BRep w b F y bt vs ps Fs) {i : Nat} {x : Slot} (hx : y.slots[i]? = some x)
include hlt hf r hx

/-- The disk that is coming is in its slot. -/
theorem BRep.come {c : Dev} (hcm : x.coming = some c) (hc : Chg (bt :: Fs i 0) w w') (hb : Blk w' bt 146 ((vs.set (i * 3) (ptrV (ps i 2))).set (i * 3 + 2) (ptrV none))) :
    Turns w F (BayT b (y.turn i (fun _ => { x with inn := some c, coming := none }))) w' := by
  have hs := hf.slot hx
  have hi : i < y.slots.length := (List.getElem?_eq_some_iff.1 hx).1
  have hln := r.len
  have hoff : ∀ j, j ≠ 0 → ∀ q ∈ Fs i j, q ∉ bt :: Fs i 0 := fun j hj q hq hm => by
    rcases List.mem_cons.1 hm with h | h
    · exact (r.offb i j q hq).2 h
    · exact r.off i j i 0 (.inr hj) q hq h
  refine r.slot hlt hf hx { x with inn := some c, coming := none } ⟨fun d hd => ?_, fun d hd => ?_⟩ _ (fun j => if j = 0 then ps i 2 else if j = 2 then none else ps i j) (fun j => if j = 0 then Fs i 2 else if j = 2 then [] else Fs i j) (hc.mono (by intro q hq; simp at hq ⊢; rcases hq with h | h; exact .inl h; exact .inr (.inl h))) hb (by simp) (fun j hj => ?_) (fun a j ha hj => ?_) (fun j => ?_) (fun j q hq => ?_) (fun j j' hne q hq => ?_)
  · rcases hd with hd | hd | hd
    · obtain rfl : c = d := by simpa using hd
      exact hs.devs c (.inr (.inr hcm))
    · exact hs.devs d (.inr (.inl hd))
    · cases hd
  · rcases hd with hd | hd
    · exact hs.clean d (.inl hd)
    · cases hd
  · match j, hj with
    | 0, _ => rw [List.getElem?_set_ne (by omega), Nat.add_zero, List.getElem?_set_self (by omega)]; rfl
    | 1, _ => rw [List.getElem?_set_ne (by omega), List.getElem?_set_ne (by omega)]; exact r.ptr i 1 hi (by decide)
    | 2, _ => rw [List.getElem?_set_self (by simp; omega)]; rfl
  · rw [List.getElem?_set_ne (by omega), List.getElem?_set_ne (by omega)]
  · match j with
    | 0 =>
      have h1 := (r.dev i 2).chg hc (hoff 2 (by decide))
      rw [Bay.place_of hx, show x.get 2 = some c from hcm] at h1
      exact h1
    | 1 =>
      have h1 := (r.dev i 1).chg hc (hoff 1 (by decide))
      rw [Bay.place_of hx] at h1
      exact h1
    | 2 => exact PlaceIn.none _
    | m + 3 =>
      have h1 := (r.dev i (m + 3)).chg hc (hoff (m + 3) (by omega))
      rw [Bay.place_of hx] at h1
      rw [if_neg (by omega), if_neg (by omega), if_neg (by omega), if_neg (by omega)]
      exact h1
  · by_cases h0 : j = 0
    · rw [if_pos h0] at hq
      exact .inl ⟨2, hq⟩
    · rw [if_neg h0] at hq
      by_cases h2 : j = 2
      · rw [if_pos h2] at hq; cases hq
      · rw [if_neg h2] at hq
        exact .inl ⟨j, hq⟩
  · have key : ∀ j, ∃ s, (∀ q ∈ (if j = 0 then Fs i 2 else if j = 2 then [] else Fs i j), q ∈ Fs i s) ∧ s = if j = 0 then 2 else if j = 2 then 0 else j := fun j => by
      refine ⟨_, fun q hq => ?_, rfl⟩
      by_cases h0 : j = 0
      · rw [if_pos h0] at hq ⊢; exact hq
      · rw [if_neg h0] at hq ⊢
        by_cases h2 : j = 2
        · rw [if_pos h2] at hq; cases hq
        · rw [if_neg h2] at hq ⊢; exact hq
    obtain ⟨s, hs1, hs2⟩ := key j
    obtain ⟨s', hs1', hs2'⟩ := key j'
    intro hm
    refine r.off i s i s' (.inr ?_) q (hs1 q hq) (hs1' q hm)
    rw [hs2, hs2']
    split <;> split <;> (try split) <;> (try split) <;> omega

end
end Go.Proofs.YtaggfbgbmiifaaaGreat

/-
  The program's bay: cut of a slot, Pull, Push, Swap, Load. By an AI agent.
-/
namespace Go.Proofs.YtaggfbgbmiifaaaGreat
open Go.RowKit Go.Maps

set_option maxHeartbeats 2000000 in
set_option maxRecDepth 100000 in
theorem traycut_any {w : World} {b : Nat} {F : List Nat} {y : Bay} {bt : Nat} {vs : List Value} {ps : Nat → Nat → Option Nat} {Fs : Nat → Nat → List Nat} (hlt : ∀ k ∈ F, k < w.heap.size) (hf : y.Fit) (r : BRep w b F y bt vs ps Fs) {i : Nat} {x : Slot} (hx : y.slots[i]? = some x)
    (v : Value) (keep : List Bool) (hv : RdV w v (keep.map Value.bool)) (hold : keep ≠ [] → ∀ k, v.ownBlock = some k → k ∉ F ∧ k < w.heap.size) :
    Calls Tryz.prog 76 #[.pointer (some ⟨bt, i * 3, none⟩), v] w fun e w' => e = .returned (.tuple #[]) ∧ Hid (Turns w F (BayT b (y.turn i (fun _ => x.cutTo keep))) w') := by
  have hi := (List.getElem?_eq_some_iff.1 hx).1
  have hs := hf.slot hx
  have c0 := r.tr.cell (r.ptr i 0 hi (by decide))
  have c2 := ptrV_get r.tr (r.ptr i 2 hi (by decide))
  have d0 := r.dev i 0
  have d2 := r.dev i 2
  rw [Bay.place_of hx] at d0 d2
  cases hin : x.inn with
  | none =>
    have p0 := (d0.isNone (show x.get 0 = none from hin)).1
    cases hcm : x.coming with
    | none =>
      have p2 := (d2.isNone (show x.get 2 = none from hcm)).1
      have e1 : x.cutTo keep = x := by
        unfold Slot.cutTo
        rw [hcm]
        simp only
        rw [hin]
        cases x
        simp_all
      have T0 : Hid (Turns w F (BayT b (y.turn i (fun _ => x.cutTo keep))) w) := by
        rw [e1, Bay.turn_self hx]
        exact Turns.same (T := BayT b y) ⟨hlt, hf, bt, vs, ps, Fs, r⟩ rfl
      rw [p0] at c0
      rw [p2] at c2
      replace c0 : w.cell? ⟨bt, i * 3, none⟩ = some (.pointer none) := c0
      replace c2 : w.cell? ⟨bt, i * 3 + 2, none⟩ = some (.pointer none) := c2
      clear hlt hf r hx hi hs d0 d2 hin hcm p0 p2 e1 hv hold
      go_enter Tryz.func76, Tryz.ntmps76
      go_wp2_with fail
      go_end0
      exact ⟨rfl, T0⟩
    | some c =>
      obtain ⟨k, p2, _⟩ := d2.isSome (show x.get 2 = some c from hcm)
      have e1 : x.cutTo keep = { x with inn := some c, coming := none } := by
        unfold Slot.cutTo
        rw [hcm]
      have f0 := r.tr.free (i * 3)
      have f2 := r.tr.free (i * 3 + 2)
      have T0 : Hid (Turns w F (BayT b (y.turn i (fun _ => x.cutTo keep))) ((w.setCell ⟨bt, i * 3, none⟩ (.pointer (some ⟨k, 0, none⟩))).setCell ⟨bt, i * 3 + 2, none⟩ (.pointer none))) := by
        rw [e1]
        refine r.come hlt hf hx hcm (((Chg.refl _ _).setCell (.inl (by simp)) _).setCell (.inl (by simp)) _) ?_
        rw [p2]
        exact (r.tr.set _ _).set _ _
      rw [p0] at c0
      rw [p2] at c2
      replace c0 : w.cell? ⟨bt, i * 3, none⟩ = some (.pointer none) := c0
      replace c2 : w.cell? ⟨bt, i * 3 + 2, none⟩ = some (.pointer (some ⟨k, 0, none⟩)) := c2
      clear hlt hf r hx hi hs d0 d2 hin hcm p0 p2 e1 hv hold
      go_enter Tryz.func76, Tryz.ntmps76
      go_wp2_with fail
      go_end0
      exact ⟨rfl, T0⟩
  | some d =>
    obtain ⟨kd, p0, hk⟩ := d0.isSome (show x.get 0 = some d from hin)
    obtain ⟨g, Fd, hFd, hkd, hb, hdk⟩ := hk.rep
    have cd := hb.cell (j := 0) rfl
    have hdi : ∀ q ∈ Fd, q ∈ F := fun q hq => r.inF.2.2 i 0 q (by rw [hFd]; exact List.mem_cons_of_mem _ hq)
    have CR := Lib.hid (dcrash_any g Fd d.disk v keep w hdk hv (fun hne q hq => ⟨fun hm => (hold hne q hq).1 (hdi q hm), (hold hne q hq).2⟩))
    have hbt : bt ∉ Fd := fun hm => (r.offb i 0 bt (by rw [hFd]; exact List.mem_cons_of_mem _ hm)).2 rfl
    have BT := Lib.hid r.tr
    cases hcm : x.coming with
    | none =>
      have p2 := (d2.isNone (show x.get 2 = none from hcm)).1
      have e1 : x.cutTo keep = { x with inn := some (d.lay (d.disk.crash keep)) } := by
        unfold Slot.cutTo
        rw [hcm]
        simp only
        rw [hin]
        rfl
      have T0 : Hid (∀ w', Turns w Fd (DiskT g (d.disk.crash keep)) w' → Turns w F (BayT b (y.turn i (fun _ => x.cutTo keep))) w') := fun w' ⟨F2, h1, h2, h3⟩ => by
        rw [e1]
        have hf0 := hs.devs d (.inl hin)
        have e2 : y.turn i (fun _ => { x with inn := some (d.lay (d.disk.crash keep)) }) = y.setIn i (d.lay (d.disk.crash keep)) := (Bay.turn_const (fun x => { x with inn := some (d.lay (d.disk.crash keep)) }) hx).symm
        rw [e2]
        refine r.inn hlt hf hx p0 (d.lay (d.disk.crash keep)) ⟨hf0.1.crash keep, hf0.2⟩ (kd :: F2) ⟨g, F2, rfl, fun hm => ?_, hb.chg h3 hkd, h1⟩ (fun j hj => ?_) (h3.mono (by rw [hFd]; intro q hq; exact List.mem_cons_of_mem _ hq))
        · rcases h2 kd hm with q | q
          · exact hkd q
          · have := hb.lt; omega
        · rw [hFd]
          rcases List.mem_cons.1 hj with rfl | hj
          · exact .inl List.mem_cons_self
          · exact (h2 j hj).imp (List.mem_cons_of_mem _) id
      have C2x : Hid (∀ w', Turns w Fd (DiskT g (d.disk.crash keep)) w' → w'.cell? ⟨bt, i * 3 + 2, none⟩ = some (.pointer none)) := fun w' ⟨F2, h1, h2, h3⟩ => by
        rw [p2] at c2
        exact (h3.cell (p := ⟨bt, i * 3 + 2, none⟩) r.tr.lt hbt).trans c2
      rw [p0] at c0
      replace c0 : w.cell? ⟨bt, i * 3, none⟩ = some (.pointer (some ⟨kd, 0, none⟩)) := c0
      clear hlt hf r hx hi hs d0 d2 hin hcm p0 p2 e1 hv hold c2 hk hb hdk hdi hFd hkd hbt BT
      go_enter Tryz.func76, Tryz.ntmps76
      go_wp2_with fail
      refine CR.out.mono ?_
      rintro e w1 ⟨rfl, hT⟩
      have c2 := C2x.out _ hT
      have T1 := Lib.hid (T0.out _ hT)
      clear CR T0 C2x hT
      go_wp2_with fail
      go_end0
      exact ⟨rfl, T1⟩
    | some c =>
      obtain ⟨k, p2, _⟩ := d2.isSome (show x.get 2 = some c from hcm)
      have e1 : x.cutTo keep = { x with inn := some c, coming := none } := by
        unfold Slot.cutTo
        rw [hcm]
      have T0 : Hid (∀ w', Turns w Fd (DiskT g (d.disk.crash keep)) w' → Turns w F (BayT b (y.turn i (fun _ => x.cutTo keep))) ((w'.setCell ⟨bt, i * 3, none⟩ (.pointer (some ⟨k, 0, none⟩))).setCell ⟨bt, i * 3 + 2, none⟩ (.pointer none))) := fun w' ⟨F2, h1, h2, h3⟩ => by
        rw [e1]
        refine r.come hlt hf hx hcm (((h3.mono (by rw [hFd]; intro q hq; simp [hq])).setCell (.inl (by simp)) _).setCell (.inl (by simp)) _) ?_
        rw [p2]
        exact ((r.tr.chg h3 hbt).set _ _).set _ _
      have C2x : Hid (∀ w', Turns w Fd (DiskT g (d.disk.crash keep)) w' → w'.cell? ⟨bt, i * 3 + 2, none⟩ = some (.pointer (some ⟨k, 0, none⟩)) ∧ w'.cell? ⟨bt, i * 3, none⟩ = some (.pointer (some ⟨kd, 0, none⟩)) ∧ w'.frozen? ⟨bt, i * 3, none⟩ = false ∧ w'.frozen? ⟨bt, i * 3 + 2, none⟩ = false) := fun w' ⟨F2, h1, h2, h3⟩ => by
        rw [p2] at c2
        rw [p0] at c0
        exact ⟨(h3.cell (p := ⟨bt, i * 3 + 2, none⟩) r.tr.lt hbt).trans c2, (h3.cell (p := ⟨bt, i * 3, none⟩) r.tr.lt hbt).trans c0, (r.tr.chg h3 hbt).free _, (r.tr.chg h3 hbt).free _⟩
      rw [p0] at c0
      replace c0 : w.cell? ⟨bt, i * 3, none⟩ = some (.pointer (some ⟨kd, 0, none⟩)) := c0
      clear hlt hf r hx hi hs d0 d2 hin hcm p0 p2 e1 hv hold c2 hk hb hdk hdi hFd hkd hbt BT
      go_enter Tryz.func76, Tryz.ntmps76
      go_wp2_with fail
      refine CR.out.mono ?_
      rintro e w1 ⟨rfl, hT⟩
      obtain ⟨c2, c0b, f0, f2⟩ := C2x.out _ hT
      have T1 := Lib.hid (T0.out _ hT)
      clear CR T0 C2x hT
      go_wp2_with fail
      go_end0
      exact ⟨rfl, T1⟩

section
variable (b : Nat) (F : List Nat) (y : Bay) (w : World) (h : (BayT b y F).P w)
include h

end
end Go.Proofs.YtaggfbgbmiifaaaGreat

/-
  The program's bay: Cut. By an AI agent.
-/
namespace Go.Proofs.YtaggfbgbmiifaaaGreat
open Go.RowKit Go.Maps

theorem Turns.chain {w w1 w2 : World} {F F1 : List Nat} {T : List Nat → Thing} (hF : ∀ k ∈ F1, k ∈ F ∨ w.heap.size ≤ k) (c : Chg F w w1) (t : Turns w1 F1 T w2) : Turns w F T w2 := by
  obtain ⟨F', h1, h2, h3⟩ := t
  have hz := c.size
  exact ⟨F', h1, fun k hk => by
    rcases h2 k hk with q | q
    · exact hF k q
    · exact .inr (by omega), c.fresh h3 hF⟩

/-- What lies there as it did, in a world in which those blocks stayed. -/
theorem BRs.chgOff {w w' : World} {s : List Nat} {v : Value} {ds : List BoolD} (h : BRs w v ds) (c : Chg s w w') (h1 : ds ≠ [] → ∀ k, v.ownBlock = some k → k ∉ s) (h2 : ∀ d ∈ ds, d.bs ≠ [] → ∀ k, d.v.ownBlock = some k → k ∉ s) : BRs w' v ds := by
  rcases h with h | ⟨b, o, cp, rfl, hb, hl, h⟩
  · exact .inl h
  · refine .inr ⟨b, o, cp, rfl, Nat.lt_of_lt_of_le hb c.size, hl, fun i d hd => ?_⟩
    have k := h i d hd
    have hm := List.mem_of_getElem? hd
    have hne : ds ≠ [] := fun e => by rw [e] at hm; cases hm
    refine ⟨(c.cell (p := ⟨b, o + i, none⟩) hb (h1 hne b rfl)).trans k.c0, ?_, k.big⟩
    by_cases hn : d.bs = []
    · rw [hn]
      rcases k.rd with q | ⟨b2, o2, c2, hv, _⟩
      · exact .inl ⟨rfl, q.2⟩
      · rw [hn] at hv
        exact .inl ⟨rfl, _, _, hv⟩
    · exact k.rd.chg c (h2 d hm hn)

namespace Bay

/-- The first j slots behind a cut. -/
def cutPart (y : Bay) (keeps : List (List Bool)) (j : Nat) : Bay := { y with slots := y.slots.mapIdx (fun a x => if a < j then cutSlot keeps a x else x) }

theorem cutPart_len (y : Bay) (keeps : List (List Bool)) (j : Nat) : (y.cutPart keeps j).slots.length = y.slots.length := by simp [cutPart]

theorem cutPart_zero (y : Bay) (keeps : List (List Bool)) : y.cutPart keeps 0 = y := by
  have : y.slots.mapIdx (fun a x => if a < 0 then cutSlot keeps a x else x) = y.slots := by
    apply List.ext_getElem?
    intro m
    simp
  unfold cutPart
  rw [this]

theorem cutPart_at {y : Bay} (keeps : List (List Bool)) {j : Nat} {x : Slot} (h : y.slots[j]? = some x) : (y.cutPart keeps j).slots[j]? = some x := by
  unfold cutPart
  simp [h]

theorem cutPart_next {y : Bay} (keeps : List (List Bool)) {j : Nat} {x : Slot} (h : y.slots[j]? = some x) : y.cutPart keeps (j + 1) = (y.cutPart keeps j).turn j (fun _ => x.cutTo (keeps.getD j [])) := by
  unfold cutPart turn
  rw [Int.toNat_natCast]
  congr 1
  apply List.ext_getElem?
  intro m
  rw [List.getElem?_modify]
  simp only [List.getElem?_mapIdx]
  by_cases hm : j = m
  · subst hm
    rw [h]
    simp [cutSlot_eq]
  · cases y.slots[m]? with
    | none => simp [hm]
    | some z =>
      by_cases h1 : m < j
      · simp [hm, h1, show m < j + 1 by omega]
      · simp [hm, h1, show ¬ m < j + 1 by omega]

theorem cutPart_all (y : Bay) (keeps : List (List Bool)) : { y.cutPart keeps y.slots.length with dark := false, trip := none } = y.cut keeps := by
  have e : y.slots.mapIdx (fun a x => if a < y.slots.length then cutSlot keeps a x else x) = y.slots.mapIdx (cutSlot keeps) := by
    apply List.ext_getElem?
    intro m
    simp only [List.getElem?_mapIdx]
    cases h : y.slots[m]? with
    | none => rfl
    | some z =>
      have := (List.getElem?_eq_some_iff.1 h).1
      simp [this]
  unfold cutPart cut
  simp only [e]

end Bay

set_option maxHeartbeats 2000000 in
set_option maxRecDepth 100000 in
theorem bcut_any (b : Nat) (F : List Nat) (y : Bay) (w : World) (h : (BayT b y F).P w) (v : Value) (ds : List BoolD) (hv : BRs w v ds) (hold : ds ≠ [] → ∀ k, v.ownBlock = some k → k ∉ F ∧ k < w.heap.size) (holds : ∀ d ∈ ds, d.bs ≠ [] → ∀ k, d.v.ownBlock = some k → k ∉ F ∧ k < w.heap.size) :
    Calls Tryz.prog 19 #[.pointer (some ⟨b, 0, none⟩), v] w fun e w' => e = .returned (.tuple #[]) ∧ Hid (Turns w F (BayT b (y.cut (ds.map (·.bs)))) w') := by
  have h' : BayIn w b F y := h
  obtain ⟨n, hn⟩ : ∃ n, n = y.slots.length := ⟨_, rfl⟩
  have hn17 : n ≤ 17 := by have := h'.fit.len; omega
  have HV := Lib.hid hv
  have HO := Lib.hid hold
  have HS := Lib.hid holds
  have hdl := hv.len
  obtain ⟨vo, vc, rfl⟩ := hv.slice
  have H0 : Hid ((BayT b (y.cutPart (ds.map (·.bs)) 0) F).P w) := by rw [Bay.cutPart_zero]; exact h
  obtain ⟨bt, vs, ps, Fs, r⟩ := h'.rep
  have c0 : w.cell? ⟨b, 0, none⟩ = some (.slice (some ⟨bt, 0, none⟩) n n) := by rw [hn]; exact r.blk.cell (j := 0) rfl
  replace hn := Lib.hid hn
  clear h h' r hv hold holds
  go_enter Tryz.func19, Tryz.ntmps19
  go_wp2_with fail
  go_loopw [11] (fun i wr => ∃ (j : Nat) (F1 : List Nat), j ≤ n ∧ i = .int .i64 (j : Int) ∧ Hid ((BayT b (y.cutPart (ds.map (·.bs)) j) F1).P wr) ∧ Hid (∀ k ∈ F1, k ∈ F ∨ w.heap.size ≤ k) ∧ Hid (Chg F w wr)) (fun i _ => n - (intOf i).toNat)
  case atStart => exact ⟨0, F, Nat.zero_le _, rfl, H0, fun k hk => .inl hk, Chg.refl _ _⟩
  case round =>
    obtain ⟨j, F1, hj, rfl, T, HF, C⟩ := hrel
    clear H0 c0
    have hj0 : (0 : Int) ≤ j := Int.natCast_nonneg _
    have TI : BayIn wr b F1 (y.cutPart (ds.map (·.bs)) j) := T.out
    obtain ⟨bt2, vs2, ps2, Fs2, r2⟩ := TI.rep
    have c0 : wr.cell? ⟨b, 0, none⟩ = some (.slice (some ⟨bt2, 0, none⟩) n n) := by
      have := r2.blk.cell (j := 0) rfl
      rw [Bay.cutPart_len, ← hn.out] at this
      exact this
    by_cases hlt : j < n
    · have hj1 : (j : Int) < n := by omega
      obtain ⟨x, hx⟩ : ∃ x, y.slots[j]? = some x := ⟨_, List.getElem?_eq_getElem (by rw [← hn.out]; exact hlt)⟩
      have hx2 := Bay.cutPart_at (ds.map (·.bs)) hx
      have NX := Lib.hid (Bay.cutPart_next (ds.map (·.bs)) hx)
      have VW : Hid (BRs wr (.slice vo ds.length vc) ds) := HV.out.chgOff C.out (fun hne k hk => (HO.out hne k hk).1) (fun d hd hne k hk => (HS.out d hd hne k hk).1)
      have hsz := C.out.size
      by_cases hd : j < ds.length
      · have hd1 : (j : Int) < ds.length := by omega
        obtain ⟨d, hdj⟩ : ∃ d, ds[j]? = some d := ⟨_, List.getElem?_eq_getElem hd⟩
        obtain ⟨vb, vf, rfl, hvb, BI⟩ := VW.out.at hdj
        have hkd : (ds.map (·.bs)).getD j [] = d.bs := by simp [List.getD, hdj]
        rw [hkd] at NX
        have cd := BI.c0
        have CT := Lib.hid (traycut_any TI.lt TI.fit r2 hx2 d.v d.bs BI.rd (fun hne k hk => by
          obtain ⟨q1, q2⟩ := HS.out d (List.mem_of_getElem? hdj) hne k hk
          refine ⟨fun hm => ?_, by omega⟩
          rcases HF.out k hm with q | q
          · exact q1 q
          · omega))
        have E : Hid (∀ w', Turns wr F1 (BayT b ((y.cutPart (ds.map (·.bs)) j).turn j (fun _ => x.cutTo d.bs))) w' → ∃ F2, (BayT b (y.cutPart (ds.map (·.bs)) (j + 1)) F2).P w' ∧ (∀ k ∈ F2, k ∈ F ∨ w.heap.size ≤ k) ∧ Chg F w w') := fun w' t => by
          rw [← NX.out] at t
          obtain ⟨F2, t1, t2, t3⟩ := Turns.chain HF.out C.out t
          exact ⟨F2, t1, t2, t3⟩
        clear TI r2 hx hx2 NX VW BI hkd T HF C
        obtain ⟨dv, db⟩ := d
        dsimp only at cd CT E
        replace hdj := Lib.hid hdj
        go_wp2_with fail
        refine CT.out.mono ?_
        rintro e w2 ⟨rfl, hT⟩
        obtain ⟨F2, t1, t2, t3⟩ := E.out _ hT.out
        replace t1 := Lib.hid t1
        replace t2 := Lib.hid t2
        replace t3 := Lib.hid t3
        clear CT E hT cd c0
        go_wp2_with fail
        exact ⟨⟨j + 1, F2, by omega, by go_num, t1, t2, t3⟩, by simp [intOf]; omega⟩
      · have hd1 : ¬ (j : Int) < ds.length := by omega
        have hkd : (ds.map (·.bs)).getD j [] = [] := by simp [List.getD, List.getElem?_eq_none (show ds.length ≤ j by omega)]
        rw [hkd] at NX
        have CT := Lib.hid (traycut_any TI.lt TI.fit r2 hx2 (.slice none 0 0) [] (.inl ⟨rfl, _, _, rfl⟩) (fun hne => absurd rfl hne))
        have E : Hid (∀ w', Turns wr F1 (BayT b ((y.cutPart (ds.map (·.bs)) j).turn j (fun _ => x.cutTo []))) w' → ∃ F2, (BayT b (y.cutPart (ds.map (·.bs)) (j + 1)) F2).P w' ∧ (∀ k ∈ F2, k ∈ F ∨ w.heap.size ≤ k) ∧ Chg F w w') := fun w' t => by
          rw [← NX.out] at t
          obtain ⟨F2, t1, t2, t3⟩ := Turns.chain HF.out C.out t
          exact ⟨F2, t1, t2, t3⟩
        clear TI r2 hx hx2 NX VW hkd T HF C
        go_wp2_with fail
        refine CT.out.mono ?_
        rintro e w2 ⟨rfl, hT⟩
        obtain ⟨F2, t1, t2, t3⟩ := E.out _ hT.out
        replace t1 := Lib.hid t1
        replace t2 := Lib.hid t2
        replace t3 := Lib.hid t3
        clear CT E hT c0
        go_wp2_with fail
        exact ⟨⟨j + 1, F2, by omega, by go_num, t1, t2, t3⟩, by simp [intOf]; omega⟩
    · obtain rfl : j = n := by omega
      have hB := r2.blk
      have c1 := hB.cell (j := 1) rfl
      have c2 := hB.cell (j := 2) rfl
      have c3 := hB.cell (j := 3) rfl
      have f1 := hB.free 1
      have f2 := hB.free 2
      have f3 := hB.free 3
      have E : Hid (Turns w F (BayT b (y.cut (ds.map (·.bs)))) (((wr.setCell ⟨b, 1, none⟩ (.bool false)).setCell ⟨b, 2, none⟩ (.bool false)).setCell ⟨b, 3, none⟩ (.int .i64 0))) := by
        refine Turns.chain HF.out C.out ?_
        have CC : Chg [b] wr (((wr.setCell ⟨b, 1, none⟩ (.bool false)).setCell ⟨b, 2, none⟩ (.bool false)).setCell ⟨b, 3, none⟩ (.int .i64 0)) := (((Chg.refl _ _).setCell (.inl (by simp)) _).setCell (.inl (by simp)) _).setCell (.inl (by simp)) _
        rw [← Bay.cutPart_all, ← hn.out]
        refine r2.headTurns (y' := { y.cutPart (ds.map (·.bs)) j with dark := false, trip := none }) TI.lt (TI.fit.same rfl (fun m hm => by cases hm)) rfl CC ?_
        exact ((hB.set 1 (.bool false)).set 2 (.bool false)).set 3 (.int .i64 0)
      generalize (Value.bool (y.cutPart (ds.map (·.bs)) j).dark) = z1 at *
      generalize (Value.bool (y.cutPart (ds.map (·.bs)) j).trip.isSome) = z2 at *
      generalize (Value.int IntKind.i64 (((y.cutPart (ds.map (·.bs)) j).trip.getD 0 : Nat) : Int)) = z3 at *
      clear TI r2 hB T HF C
      go_wp2_with fail
      go_end0
      exact ⟨rfl, E⟩

end Go.Proofs.YtaggfbgbmiifaaaGreat

/-
  The program's bay: Swap, Load. By an AI agent.
-/
namespace Go.Proofs.YtaggfbgbmiifaaaGreat
open Go.RowKit Go.Maps

theorem Turns.later {w wA w' : World} {F : List Nat} {T : List Nat → Thing} (h : Turns wA F T w') (c : Chg [] w wA) : Turns w F T w' := by
  obtain ⟨F', h1, h2, h3⟩ := h
  have hz := c.size
  exact ⟨F', h1, fun k hk => (h2 k hk).imp id (fun q => Nat.le_trans hz q), (c.mono (by simp)).trans h3⟩

theorem enters_blank (args : Array Value) (w : World) : (callFunc 157 args).run Tryz.prog w = .ok (.enter 157 args) w := by
  have h1 : (Tryz.f157.name == "runtime.NumGoroutine") = false := by kernel_rfl
  have h2 : Tryz.f157.body.isNone = false := by kernel_rfl
  have h3 : ¬ Tryz.f157.name = "runtime.NumGoroutine" := by simpa using h1
  have h4 : ¬ Tryz.f157.body = none := fun e => by rw [e] at h2; cases h2
  simp [callFunc, go_sem, Tryz.func157, h3, h4]

/-- The function that makes a disk of noughts. -/
def blankV (c : Nat) : Value := .func (.func 157) #[] #[.pointer (some ⟨c, 0, none⟩)]

set_option maxHeartbeats 1000000 in
set_option maxRecDepth 100000 in
theorem blank_any (n : Int) (w : World) : Calls Tryz.prog 102 #[.int .i64 n] w fun e w' => e = .returned (blankV w.heap.size) ∧ w' = w.alloc (.cells #[.int .i64 n] 3) := by
  have hmf : ∀ (fn : Fn) (first cap : Array Value) (w : World), (Instr.makeFunc fn first cap).run Tryz.prog w = .ok (.func fn first cap) w := fun _ _ _ _ => rfl
  go_enter Tryz.func102, Tryz.ntmps102
  go_wp2_with fail
  go_ret
  exact ⟨rfl, rfl⟩

set_option maxHeartbeats 1000000 in
set_option maxRecDepth 100000 in
theorem blank1_any (n : Int) (hn : I64 n) (c : Nat) (w : World) (hc : w.cell? ⟨c, 0, none⟩ = some (.int .i64 n)) : Calls Tryz.prog 157 #[.pointer (some ⟨c, 0, none⟩)] w (DNewed w (1 ≤ n ∧ n ≤ 8192) (Dk.new n.toNat)) := by
  have D := Lib.hid (dnew_any n w hn)
  obtain ⟨d0, hd0⟩ : ∃ d, d = Dk.new n.toNat := ⟨_, rfl⟩
  obtain ⟨ok, hok⟩ : ∃ ok, ok = (1 ≤ n ∧ n ≤ 8192) := ⟨_, rfl⟩
  rw [← hd0, ← hok] at D ⊢
  clear hd0 hok
  go_enter Tryz.func157, Tryz.ntmps157
  go_wp2_with fail
  refine D.out.mono ?_
  rintro e w1 (⟨hno, rfl, C⟩ | ⟨hyes, g, F, rfl, T, N, C⟩)
  · clear D
    go_wp2_with fail
    go_ret2
    exact .inl ⟨hno, rfl, C⟩
  · clear D
    go_wp2_with fail
    go_ret2
    exact .inr ⟨hyes, g, F, rfl, T, N, C⟩

section
variable (b : Nat) (F : List Nat) (y : Bay) (w : World) (h : (BayT b y F).P w)
include h

end
end Go.Proofs.YtaggfbgbmiifaaaGreat

/-
  The program's bay: New. By an AI agent.
-/
namespace Go.Proofs.YtaggfbgbmiifaaaGreat
open Go.RowKit Go.Maps

/-- A new bay, or none. -/
def BNewed (w : World) (sizes : List Int) (e : Ending) (w' : World) : Prop :=
  (Bay.newErr sizes ≠ 0 ∧ e = .returned (.tuple #[.pointer none, .int .u16 (Bay.newErr sizes : Nat)]) ∧ Hid (Chg [] w w')) ∨
  (Bay.newErr sizes = 0 ∧ ∃ b F, e = .returned (.tuple #[.pointer (some ⟨b, 0, none⟩), .int .u16 0]) ∧ Hid ((BayT b (Bay.new sizes) F).P w') ∧ Hid (∀ k ∈ F, w.heap.size ≤ k) ∧ Hid (Chg [] w w'))

namespace Bay

def emptySlot : Slot := ⟨none, none, none⟩

/-- The first j slots of a new bay. -/
def newPart (sizes : List Int) (j : Nat) : Bay := ⟨(sizes.take j).map slotOf ++ List.replicate (sizes.length - j) emptySlot, false, none, 0, 0, 0⟩

theorem newPart_len (sizes : List Int) {j : Nat} (h : j ≤ sizes.length) : (newPart sizes j).slots.length = sizes.length := by
  simp [newPart]
  omega

theorem newPart_zero (sizes : List Int) : newPart sizes 0 = ⟨List.replicate sizes.length emptySlot, false, none, 0, 0, 0⟩ := by simp [newPart]

theorem newPart_all (sizes : List Int) : newPart sizes sizes.length = Bay.new sizes := by simp [newPart, Bay.new]

theorem newPart_at (sizes : List Int) {j : Nat} (h : j < sizes.length) : (newPart sizes j).slots[j]? = some emptySlot := by
  have : ((sizes.take j).map slotOf).length = j := by simp; omega
  unfold newPart
  rw [List.getElem?_append_right (by omega), this, Nat.sub_self, List.getElem?_replicate]
  simp [show 0 < sizes.length - j by omega]

theorem newPart_next (sizes : List Int) {j : Nat} {n : Int} (h : sizes[j]? = some n) : newPart sizes (j + 1) = (newPart sizes j).turn j (fun _ => slotOf n) := by
  have hj := (List.getElem?_eq_some_iff.1 h).1
  have hl : ((sizes.take j).map slotOf).length = j := by simp; omega
  have e : (newPart sizes j).slots.modify j (fun _ => slotOf n) = (newPart sizes (j + 1)).slots := by
    have hl2 : ((sizes.take (j + 1)).map slotOf).length = j + 1 := by simp; omega
    apply List.ext_getElem?
    intro m
    rw [List.getElem?_modify]
    by_cases hm : j = m
    · subst hm
      rw [newPart_at sizes hj]
      unfold newPart
      rw [List.getElem?_append_left (by omega), List.getElem?_map, List.getElem?_take_of_lt (by omega), h]
      simp
    · simp only [hm, if_false]
      unfold newPart
      by_cases h1 : m < j
      · rw [List.getElem?_append_left (by omega), List.getElem?_append_left (by omega), List.getElem?_map, List.getElem?_map, List.getElem?_take_of_lt h1, List.getElem?_take_of_lt (by omega)]
        simp
      · rw [List.getElem?_append_right (by omega), List.getElem?_append_right (by omega), hl, hl2, List.getElem?_replicate, List.getElem?_replicate]
        by_cases h2 : m < sizes.length
        · rw [if_pos (by omega), if_pos (by omega)]
          simp
        · rw [if_neg (by omega), if_neg (by omega)]
          simp
  unfold turn
  rw [Int.toNat_natCast, e]
  rfl

theorem slotOf_zero : slotOf 0 = emptySlot := rfl

theorem newPart_skip (sizes : List Int) {j : Nat} (h : sizes[j]? = some 0) : newPart sizes (j + 1) = newPart sizes j := by
  rw [newPart_next sizes h, slotOf_zero]
  have := newPart_at sizes (List.getElem?_eq_some_iff.1 h).1
  unfold turn
  rw [Int.toNat_natCast]
  have e : (newPart sizes j).slots.modify j (fun _ => emptySlot) = (newPart sizes j).slots := by
    apply List.ext_getElem?
    intro m
    rw [List.getElem?_modify]
    by_cases hm : j = m
    · subst hm
      rw [this]
      simp
    · simp [hm]
  rw [e]

theorem newPart_lay (sizes : List Int) {j : Nat} {n : Int} (h : sizes[j]? = some n) (hn : n ≠ 0) : newPart sizes (j + 1) = (newPart sizes j).setIn j ⟨Dk.new n.toNat, none⟩ := by
  rw [newPart_next sizes h]
  unfold setIn
  rw [turn_const (fun x => { x with inn := some ⟨Dk.new n.toNat, none⟩ }) (newPart_at sizes (List.getElem?_eq_some_iff.1 h).1)]
  unfold slotOf
  rw [if_neg hn]
  rfl

theorem newErr_bad {sizes : List Int} (h1 : 1 ≤ sizes.length) (h2 : sizes.length ≤ 17) {n : Int} (hm : n ∈ sizes) (hn : n < 0 ∨ 8192 < n) : newErr sizes = 40 := by
  unfold newErr
  rw [if_neg (by omega), if_pos (List.any_eq_true.2 ⟨n, hm, decide_eq_true hn⟩)]

theorem newErr_good {sizes : List Int} (h1 : 1 ≤ sizes.length) (h2 : sizes.length ≤ 17) (h : ∀ n ∈ sizes, 0 ≤ n ∧ n ≤ 8192) : newErr sizes = 0 := by
  unfold newErr
  rw [if_neg (by omega), if_neg (fun hc => ?_)]
  obtain ⟨n, hm, hn⟩ := List.any_eq_true.1 hc
  have := of_decide_eq_true hn
  have := h n hm
  omega

theorem newErr_many {sizes : List Int} (h : sizes.length < 1 ∨ 17 < sizes.length) : newErr sizes = 1 := by
  unfold newErr
  rw [if_pos h]

theorem newPart_fit {sizes : List Int} (h1 : 1 ≤ sizes.length) (h2 : sizes.length ≤ 17) : (newPart sizes 0).Fit := by
  rw [newPart_zero]
  refine ⟨by simp; omega, fun x hx d hd => ?_, (fun n hn => by cases hn), fun x hx d hd => ?_⟩
  · rw [(List.mem_replicate.1 hx).2] at hd
    rcases hd with hd | hd | hd <;> cases hd
  · rw [(List.mem_replicate.1 hx).2] at hd
    rcases hd with hd | hd <;> cases hd

end Bay

theorem info_tray : (Tryz.prog.info? 146).map (fun i => (i.zero, i.size, i.bytes)) = some (some (.agg #[.pointer none, .pointer none, .pointer none]), 3, 24) := by kernel_rfl

theorem made_trays (n : Nat) : (madeCells (Value.agg #[.pointer none, .pointer none, .pointer none]).cells (n * 3)).toList = List.replicate (n * 3) (Value.pointer none) := by
  apply List.ext_getElem?
  intro j
  by_cases hj : j < n * 3
  · have hm : j % 3 < 3 := Nat.mod_lt _ (by decide)
    have : j % 3 = 0 ∨ j % 3 = 1 ∨ j % 3 = 2 := by omega
    rcases this with h | h | h <;> simp [madeCells, Value.cells, hj, h]
  · simp [madeCells, Value.cells, hj]

set_option maxHeartbeats 2000000 in
set_option maxRecDepth 100000 in
theorem bnew_any (v : Value) (sizes : List Int) (w : World) (hv : RdV w v (sizes.map (Value.int .i64))) (hi : Is sizes) (hl : sizes.length ≤ 140737488355328) : Calls Tryz.prog 27 #[v] w (BNewed w sizes) := by
  obtain ⟨vo, vc, rfl⟩ := hv.slice
  rw [List.length_map] at hv ⊢
  by_cases hlo : sizes.length < 1
  · have e := Lib.hid (Bay.newErr_many (.inl hlo))
    have h1 : (sizes.length : Int) < 1 := by omega
    have P : Hid (∀ e0, e0 = .returned (.tuple #[.pointer none, .int .u16 1]) → BNewed w sizes e0 w) := fun e0 he => .inl ⟨by rw [e.out]; decide, by rw [e.out]; exact he, Chg.refl _ _⟩
    clear hv hi e
    go_enter Tryz.func27, Tryz.ntmps27
    go_wp2_with fail
    go_ret2
    exact P.out _ rfl
  have h1 : ¬ (sizes.length : Int) < 1 := by omega
  by_cases hhi : 17 < sizes.length
  · have e := Lib.hid (Bay.newErr_many (.inr hhi))
    have h2 : (17 : Int) < sizes.length := by omega
    have P : Hid (∀ e0, e0 = .returned (.tuple #[.pointer none, .int .u16 1]) → BNewed w sizes e0 w) := fun e0 he => .inl ⟨by rw [e.out]; decide, by rw [e.out]; exact he, Chg.refl _ _⟩
    clear hv hi e
    go_enter Tryz.func27, Tryz.ntmps27
    go_wp2_with fail
    go_ret2
    exact P.out _ rfl
  have h2 : ¬ (17 : Int) < sizes.length := by omega
  obtain ⟨n, hn⟩ : ∃ n, n = sizes.length := ⟨_, rfl⟩
  have hn1 : 1 ≤ n := by omega
  have hn2 : n ≤ 17 := by omega
  have FIT := Lib.hid (Bay.newPart_fit (sizes := sizes) (by omega) (by omega))
  have BAD : Hid (∀ z ∈ sizes, (z < 0 ∨ 8192 < z) → Bay.newErr sizes = 40) := fun z hm hz => Bay.newErr_bad (by omega) (by omega) hm hz
  have GOOD : Hid ((∀ z ∈ sizes, 0 ≤ z ∧ z ≤ 8192) → Bay.newErr sizes = 0) := fun h => Bay.newErr_good (by omega) (by omega) h
  have HV := Lib.hid hv
  have HI := Lib.hid hi
  rw [← hn] at h1 h2 ⊢
  replace hn := Lib.hid hn
  obtain ⟨i0, ki, kz0, kz1, kz2⟩ := info_parts info_tray
  replace ki := Lib.hid ki
  replace kz0 := Lib.hid kz0
  replace kz1 := Lib.hid kz1
  replace kz2 := Lib.hid kz2
  clear hv hi hl hlo hhi
  go_enter Tryz.func27, Tryz.ntmps27
  go_wp2_with (with_reducible refine wpList_make_full _ rfl (.tmp 17) (.tmp 17) 139 rfl w.heap.size 146 i0 _ 3 Tryz.underlying139 ki.out kz0.out kz1.out .i64 .i64 (n : Int) (n : Int) n rfl rfl rfl rfl (by rw [kz2.out]; omega) (by unfold maxLen; omega) (Nat.le_refl _) ?_; intro w1 ow gr; obtain ⟨B0, hb0⟩ := Blk.ownedN ow; rw [made_trays] at B0; have C1 := Lib.hid ((Chg.refl [] w).grown gr (fun k hk => by cases hk)); replace B0 := Lib.hid B0; clear ow gr hb0)
  have BB := Blk.made w1 [.slice (some ⟨w.heap.size, 0, none⟩) n n, .bool false, .bool false, .int .i64 0, .int .i64 0, .int .i64 0, .int .i64 0] 143
  have CB : Hid (Chg [] w (w1.alloc (.cells #[.slice (some ⟨w.heap.size, 0, none⟩) n n, .bool false, .bool false, .int .i64 0, .int .i64 0, .int .i64 0, .int .i64 0] 143))) := C1.out.alloc _
  have hsz := C1.out.size
  have hlt0 := B0.out.lt
  obtain ⟨b, hb⟩ : ∃ b, b = w1.heap.size := ⟨_, rfl⟩
  have H0 : Hid ((BayT b (Bay.newPart sizes 0) [b, w.heap.size]).P (w1.alloc (.cells #[.slice (some ⟨w.heap.size, 0, none⟩) n n, .bool false, .bool false, .int .i64 0, .int .i64 0, .int .i64 0, .int .i64 0] 143))) := by
    have hln : (Bay.newPart sizes 0).slots.length = n := by rw [Bay.newPart_len sizes (Nat.zero_le _), hn.out]
    have hz : (w1.alloc (.cells #[.slice (some ⟨w.heap.size, 0, none⟩) n n, .bool false, .bool false, .int .i64 0, .int .i64 0, .int .i64 0, .int .i64 0] 143)).heap.size = w1.heap.size + 1 := by simp
    refine ⟨fun k hk => ?_, FIT.out, w.heap.size, List.replicate (n * 3) (.pointer none), fun _ _ => none, fun _ _ => [], ⟨?_, B0.out.alloc _, by rw [hln]; simp, fun i j hi hj => ?_, fun i j => .inl ⟨?_, rfl, rfl⟩, (fun _ _ _ _ _ k hk => by cases hk), (fun _ _ k hk => by cases hk), (by omega), (by simp), (by simp), (fun _ _ k hk => by cases hk)⟩⟩
    · rw [hz]
      rcases List.mem_cons.1 hk with rfl | hk
      · omega
      · rw [List.mem_singleton.1 hk]; omega
    · rw [hln, Bay.newPart_zero, hb]
      exact BB
    · rw [hln] at hi
      rw [List.getElem?_replicate, if_pos (by omega)]
      rfl
    · unfold Bay.place
      rw [Bay.newPart_zero]
      simp only [List.getElem?_replicate]
      split
      · match j with
        | 0 => rfl
        | 1 => rfl
        | 2 => rfl
        | _ + 3 => rfl
      · rfl
  have HF0 : Hid (∀ k ∈ [b, w.heap.size], w.heap.size ≤ k) := fun k hk => by
    rcases List.mem_cons.1 hk with rfl | hk
    · omega
    · rw [List.mem_singleton.1 hk]; exact Nat.le_refl _
  rw [← hb]
  clear BB hsz hlt0 B0 C1
  generalize w1.alloc (.cells #[.slice (some ⟨w.heap.size, 0, none⟩) n n, .bool false, .bool false, .int .i64 0, .int .i64 0, .int .i64 0, .int .i64 0] 143) = w2 at *
  clear hb
  go_wp2_with fail
  go_loopw [23] (fun i wr => ∃ (j : Nat) (F1 : List Nat), j ≤ n ∧ i = .int .i64 (j : Int) ∧ Hid ((BayT b (Bay.newPart sizes j) F1).P wr) ∧ Hid (∀ k ∈ F1, w.heap.size ≤ k) ∧ Hid (Chg [] w wr) ∧ Hid (∀ a z, a < j → sizes[a]? = some z → 0 ≤ z ∧ z ≤ 8192)) (fun i _ => n - (intOf i).toNat)
  case atStart => exact ⟨0, [b, w.heap.size], Nat.zero_le _, rfl, H0, HF0, CB, (fun a z h => absurd h (Nat.not_lt_zero a))⟩
  case round =>
    obtain ⟨j, F1, hj, rfl, T, HF, C, OKS⟩ := hrel
    clear H0 HF0 CB
    have hj0 : (0 : Int) ≤ j := Int.natCast_nonneg _
    by_cases hlt : j < n
    · have hj1 : (j : Int) < n := by omega
      have hjs : j < sizes.length := by have := hn.out; omega
      obtain ⟨z, hz⟩ : ∃ z, sizes[j]? = some z := ⟨_, List.getElem?_eq_getElem hjs⟩
      obtain ⟨vb, vf, rfl, cz⟩ := (HV.out.chgNil C.out).at (k := j) (u := .int .i64 z) (by rw [List.getElem?_map, hz]; rfl)
      have hzI : I64 z := HI.out z (List.mem_of_getElem? hz)
      have hz1 := hzI.1
      have hz2 := hzI.2
      by_cases hz0 : z = 0
      · subst hz0
        have T2 : Hid ((BayT b (Bay.newPart sizes (j + 1)) F1).P wr) := by rw [Bay.newPart_skip sizes hz]; exact T.out
        have OK2 : Hid (∀ a z, a < j + 1 → sizes[a]? = some z → 0 ≤ z ∧ z ≤ 8192) := fun a q ha hq => by
          by_cases h : a = j
          · subst h
            rw [hz] at hq
            obtain rfl : (0 : Int) = q := by simpa using hq
            decide
          · exact OKS.out a q (by omega) hq
        clear T OKS hz hzI hjs
        go_wp2_with fail
        exact ⟨⟨j + 1, F1, by omega, by go_num, T2, HF, C, OK2⟩, by simp [intOf]; omega⟩
      · have hz3 : ¬ z = 0 := hz0
        have TI : BayIn wr b F1 (Bay.newPart sizes j) := T.out
        obtain ⟨bt2, vs2, ps2, Fs2, r2⟩ := TI.rep
        have c0 : wr.cell? ⟨b, 0, none⟩ = some (.slice (some ⟨bt2, 0, none⟩) n n) := by
          have := r2.blk.cell (j := 0) rfl
          rw [Bay.newPart_len sizes (by omega), ← hn.out] at this
          exact this
        have hx := Bay.newPart_at sizes hjs
        have CA : Chg [] wr ((wr.drewN 1).alloc (.cells #[.int .i64 z] 3)) := ((Chg.refl _ _).drewN 1).alloc _
        have BC := Blk.made (wr.drewN 1) [.int .i64 z] 3
        have BL := Lib.hid (blank_any z (wr.drewN 1))
        have IN := Lib.hid (insert_any (w := (wr.drewN 1).alloc (.cells #[.int .i64 z] 3)) (fun k hk => Nat.lt_of_lt_of_le (TI.lt k hk) CA.size) TI.fit (r2.chg CA (fun _ _ => by simp)) hx 157 #[.pointer (some ⟨(wr.drewN 1).heap.size, 0, none⟩)] (1 ≤ z ∧ z ≤ 8192) (Dk.new z.toNat) enters_blank (fun w' c => blank1_any z hzI (wr.drewN 1).heap.size w' ((c.cell (p := ⟨(wr.drewN 1).heap.size, 0, none⟩) BC.lt (by simp)).trans (BC.cell (j := 0) rfl))))
        have NX := Lib.hid (Bay.newPart_lay sizes hz hz0)
        have E2 : Hid (∀ w', Turns ((wr.drewN 1).alloc (.cells #[.int .i64 z] 3)) F1 (BayT b ((Bay.newPart sizes j).setIn j ⟨Dk.new z.toNat, none⟩)) w' → ∃ F2, (BayT b (Bay.newPart sizes (j + 1)) F2).P w' ∧ (∀ k ∈ F2, w.heap.size ≤ k) ∧ Chg [] w w') := fun w' t => by
          rw [← NX.out] at t
          obtain ⟨F2, t1, t2, t3⟩ := t.later CA
          have hsz := C.out.size
          refine ⟨F2, t1, fun k hk => ?_, C.out.fresh t3 (fun k hk => .inr (HF.out k hk))⟩
          rcases t2 k hk with q | q
          · exact HF.out k q
          · omega
        have E1 : Hid (∀ w', Turns ((wr.drewN 1).alloc (.cells #[.int .i64 z] 3)) F1 (BayT b (Bay.newPart sizes j)) w' → Chg [] w w') := fun w' t => by
          obtain ⟨F2, t1, t2, t3⟩ := t.later CA
          exact C.out.fresh t3 (fun k hk => .inr (HF.out k hk))
        have K0 : Hid (∀ w', Chg [] wr w' → w'.cell? ⟨b, 0, none⟩ = some (.slice (some ⟨bt2, 0, none⟩) n n)) := fun w' c => (c.cell (p := ⟨b, 0, none⟩) r2.blk.lt (by simp)).trans c0
        have CAh := Lib.hid CA
        have hzm : Hid (z ∈ sizes) := List.mem_of_getElem? hz
        have OK2 : Hid ((1 ≤ z ∧ z ≤ 8192) → ∀ a q, a < j + 1 → sizes[a]? = some q → 0 ≤ q ∧ q ≤ 8192) := fun hzz a q ha hq => by
          by_cases h : a = j
          · subst h
            rw [hz] at hq
            obtain rfl : z = q := by simpa using hq
            omega
          · exact OKS.out a q (by omega) hq
        have hxf : Bay.emptySlot.full = false := rfl
        have hbA : b < ((wr.drewN 1).alloc (.cells #[.int .i64 z] 3)).heap.size ∧ b ∉ [bt2] := ⟨Nat.lt_of_lt_of_le r2.blk.lt CA.size, by simpa using r2.ne⟩
        clear CA BC hx TI r2 T OKS hz hjs NX
        by_cases hzz : 1 ≤ z ∧ z ≤ 8192
        · have IN2 : Hid (Calls Tryz.prog 93 #[.pointer (some ⟨bt2, j * 3, none⟩), blankV (wr.drewN 1).heap.size] ((wr.drewN 1).alloc (.cells #[.int .i64 z] 3)) fun e w' => e = .returned (.int .u16 0) ∧ Hid (∃ F2, (BayT b (Bay.newPart sizes (j + 1)) F2).P w' ∧ (∀ k ∈ F2, w.heap.size ≤ k) ∧ Chg [] w w') ∧ Hid (w'.cell? ⟨b, 0, none⟩ = some (.slice (some ⟨bt2, 0, none⟩) n n))) := by
            refine IN.out.mono ?_
            rintro e w' ⟨cc, (⟨h, _⟩ | ⟨_, h, _⟩ | ⟨_, _, rfl, t⟩)⟩
            · rw [hxf] at h; cases h
            · exact absurd hzz h
            · exact ⟨rfl, E2.out w' t.out, (cc.out.cell (p := ⟨b, 0, none⟩) hbA.1 hbA.2).trans (K0.out _ CAh.out)⟩
          have OK3 := Lib.hid (OK2.out hzz)
          clear IN E1 E2 OK2 hxf
          unfold blankV at IN2
          go_wp2_with fail
          go_region_held3 (fun w' : World => w'.cell? ⟨b, 0, none⟩ = some (.slice (some ⟨bt2, 0, none⟩) n n)) (first | exact c0 | exact K0.out _ ((Chg.refl _ _).drewN 1) | exact K0.out _ CBL.out | exact DN.out) (first
            | (go_at_call 102; refine BL.out.mono ?_; rintro e wb ⟨rfl, hwb⟩; have CBL : Hid (Chg [] wr wb) := (by rw [hwb]; exact CAh.out); rw [← hwb] at IN2; clear hwb BL)
            | (go_at_call 93; refine IN2.out.mono ?_; rintro e wc ⟨rfl, hE, DN⟩))
          obtain ⟨F2, t1, t2, t3⟩ := hE.out
          replace t1 := Lib.hid t1
          replace t2 := Lib.hid t2
          replace t3 := Lib.hid t3
          clear hE IN2 DN K0 CAh CBL HF C c0 hbA
          go_wp2_with fail
          exact ⟨⟨j + 1, F2, by omega, by go_num, t1, t2, t3, OK3⟩, by simp [intOf]; omega⟩
        · have IN2 : Hid (Calls Tryz.prog 93 #[.pointer (some ⟨bt2, j * 3, none⟩), blankV (wr.drewN 1).heap.size] ((wr.drewN 1).alloc (.cells #[.int .i64 z] 3)) fun e w' => e = .returned (.int .u16 40) ∧ Hid (Chg [] w w') ∧ Hid (w'.cell? ⟨b, 0, none⟩ = some (.slice (some ⟨bt2, 0, none⟩) n n))) := by
            refine IN.out.mono ?_
            rintro e w' ⟨cc, (⟨h, _⟩ | ⟨_, _, rfl, t⟩ | ⟨_, h, _⟩)⟩
            · rw [hxf] at h; cases h
            · exact ⟨rfl, E1.out w' t.out, (cc.out.cell (p := ⟨b, 0, none⟩) hbA.1 hbA.2).trans (K0.out _ CAh.out)⟩
            · exact absurd h hzz
          have e40 := Lib.hid (BAD.out z hzm.out (by omega))
          clear IN E1 E2 OK2 hxf hzz
          unfold blankV at IN2
          go_wp2_with fail
          go_region_held3 (fun w' : World => w'.cell? ⟨b, 0, none⟩ = some (.slice (some ⟨bt2, 0, none⟩) n n)) (first | exact c0 | exact K0.out _ ((Chg.refl _ _).drewN 1) | exact K0.out _ CBL.out | exact DN.out) (first
            | (go_at_call 102; refine BL.out.mono ?_; rintro e wb ⟨rfl, hwb⟩; have CBL : Hid (Chg [] wr wb) := (by rw [hwb]; exact CAh.out); rw [← hwb] at IN2; clear hwb BL)
            | (go_at_call 93; refine IN2.out.mono ?_; rintro e wc ⟨rfl, hE, DN⟩))
          have P : Hid (∀ e0, e0 = .returned (.tuple #[.pointer none, .int .u16 40]) → BNewed w sizes e0 wc) := fun e0 he => .inl ⟨by rw [e40.out]; decide, by rw [e40.out]; exact he, hE⟩
          clear hE IN2 DN K0 CAh CBL HF C c0 hbA e40 FIT BAD GOOD
          go_wp2_with fail
          go_ret2
          exact P.out _ rfl
    · obtain rfl : j = n := by omega
      have P : Hid (∀ e0, e0 = .returned (.tuple #[.pointer (some ⟨b, 0, none⟩), .int .u16 0]) → BNewed w sizes e0 wr) := fun e0 he => by
        have h0 : Bay.newErr sizes = 0 := GOOD.out (fun z hm => by
          obtain ⟨a, ha⟩ := List.mem_iff_getElem?.1 hm
          exact OKS.out a z (by rw [hn.out]; exact (List.getElem?_eq_some_iff.1 ha).1) ha)
        refine .inr ⟨h0, b, F1, he, ?_, HF, C⟩
        have h1 := T.out
        rw [hn.out, Bay.newPart_all] at h1
        exact h1
      clear T HF C OKS FIT BAD GOOD
      go_wp2_with fail
      go_ret2
      exact P.out _ rfl

end Go.Proofs.YtaggfbgbmiifaaaGreat
