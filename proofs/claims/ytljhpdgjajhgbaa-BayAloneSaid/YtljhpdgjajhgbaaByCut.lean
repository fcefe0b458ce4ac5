/-
  The program's bay: Cut. By an AI agent.
-/
import Derived.Test.YtljhpdgjajhgbaaBySlot
import Derived.Test.YtljhpdgjajhgbaaGInMore
namespace Go.Proofs.Ytljhpdgjajhgbaa
open Go.RowKit Go.Maps

theorem Turns.chain {w w1 w2 : World} {F F1 : List Nat} {T : List Nat → Thing} (hF : ∀ k ∈ F1, k ∈ F ∨ w.heap.size ≤ k) (c : Chg F w w1) (t : Turns w1 F1 T w2) : Turns w F T w2 := by
  obtain ⟨F', h1, h2, h3⟩ := t
  have hz := c.size
  exact ⟨F', h1, fun k hk => by
    rcases h2 k hk with q | q
    · exact hF k q
    · exact .inr (by omega), c.fresh h3 hF⟩

/-- What lies there as it did, in a world in which those blocks stayed. -/
theorem BRs.chgOff {w w' : World} {s : List Nat} {v : Value} {ds : List BoolD} (h : BRs w v ds) (c : Chg s w w') (h1 : ds ≠ [] → ∀ k, v.ownBlock = some k → k ∉ s) (h2 : ∀ d ∈ ds, d.bs ≠ [] → ∀ k, d.v.ownBlock = some k → k ∉ s) : BRs w' v ds := by
  rcases h with h | ⟨b, o, cp, rfl, hb, hl, h⟩
  · exact .inl h
  · refine .inr ⟨b, o, cp, rfl, Nat.lt_of_lt_of_le hb c.size, hl, fun i d hd => ?_⟩
    have k := h i d hd
    have hm := List.mem_of_getElem? hd
    have hne : ds ≠ [] := fun e => by rw [e] at hm; cases hm
    refine ⟨(c.cell (p := ⟨b, o + i, none⟩) hb (h1 hne b rfl)).trans k.c0, ?_, k.big⟩
    by_cases hn : d.bs = []
    · rw [hn]
      rcases k.rd with q | ⟨b2, o2, c2, hv, _⟩
      · exact .inl ⟨rfl, q.2⟩
      · rw [hn] at hv
        exact .inl ⟨rfl, _, _, hv⟩
    · exact k.rd.chg c (h2 d hm hn)

namespace Bay

/-- The first j slots behind a cut. -/
def cutPart (y : Bay) (keeps : List (List Bool)) (j : Nat) : Bay := { y with slots := y.slots.mapIdx (fun a x => if a < j then cutSlot keeps a x else x) }

theorem cutPart_len (y : Bay) (keeps : List (List Bool)) (j : Nat) : (y.cutPart keeps j).slots.length = y.slots.length := by simp [cutPart]

theorem cutPart_zero (y : Bay) (keeps : List (List Bool)) : y.cutPart keeps 0 = y := by
  have : y.slots.mapIdx (fun a x => if a < 0 then cutSlot keeps a x else x) = y.slots := by
    apply List.ext_getElem?
    intro m
    simp
  unfold cutPart
  rw [this]

theorem cutPart_at {y : Bay} (keeps : List (List Bool)) {j : Nat} {x : Slot} (h : y.slots[j]? = some x) : (y.cutPart keeps j).slots[j]? = some x := by
  unfold cutPart
  simp [h]

theorem cutPart_next {y : Bay} (keeps : List (List Bool)) {j : Nat} {x : Slot} (h : y.slots[j]? = some x) : y.cutPart keeps (j + 1) = (y.cutPart keeps j).turn j (fun _ => x.cutTo (keeps.getD j [])) := by
  unfold cutPart turn
  rw [Int.toNat_natCast]
  congr 1
  apply List.ext_getElem?
  intro m
  rw [List.getElem?_modify]
  simp only [List.getElem?_mapIdx]
  by_cases hm : j = m
  · subst hm
    rw [h]
    simp [cutSlot_eq]
  · cases y.slots[m]? with
    | none => simp [hm]
    | some z =>
      by_cases h1 : m < j
      · simp [hm, h1, show m < j + 1 by omega]
      · simp [hm, h1, show ¬ m < j + 1 by omega]

theorem cutPart_all (y : Bay) (keeps : List (List Bool)) : { y.cutPart keeps y.slots.length with dark := false, trip := none } = y.cut keeps := by
  have e : y.slots.mapIdx (fun a x => if a < y.slots.length then cutSlot keeps a x else x) = y.slots.mapIdx (cutSlot keeps) := by
    apply List.ext_getElem?
    intro m
    simp only [List.getElem?_mapIdx]
    cases h : y.slots[m]? with
    | none => rfl
    | some z =>
      have := (List.getElem?_eq_some_iff.1 h).1
      simp [this]
  unfold cutPart cut
  simp only [e]

end Bay

set_option maxHeartbeats 2000000 in
set_option maxRecDepth 100000 in
theorem bcut_any (b : Nat) (F : List Nat) (y : Bay) (w : World) (h : (BayT b y F).P w) (v : Value) (ds : List BoolD) (hv : BRs w v ds) (hold : ds ≠ [] → ∀ k, v.ownBlock = some k → k ∉ F ∧ k < w.heap.size) (holds : ∀ d ∈ ds, d.bs ≠ [] → ∀ k, d.v.ownBlock = some k → k ∉ F ∧ k < w.heap.size) :
    Calls Try.prog 19 #[.pointer (some ⟨b, 0, none⟩), v] w fun e w' => e = .returned (.tuple #[]) ∧ Hid (Turns w F (BayT b (y.cut (ds.map (·.bs)))) w') := by
  have h' : BayIn w b F y := h
  obtain ⟨n, hn⟩ : ∃ n, n = y.slots.length := ⟨_, rfl⟩
  have hn17 : n ≤ 17 := by have := h'.fit.len; omega
  have HV := Lib.hid hv
  have HO := Lib.hid hold
  have HS := Lib.hid holds
  have hdl := hv.len
  obtain ⟨vo, vc, rfl⟩ := hv.slice
  have H0 : Hid ((BayT b (y.cutPart (ds.map (·.bs)) 0) F).P w) := by rw [Bay.cutPart_zero]; exact h
  obtain ⟨bt, vs, ps, Fs, r⟩ := h'.rep
  have c0 : w.cell? ⟨b, 0, none⟩ = some (.slice (some ⟨bt, 0, none⟩) n n) := by rw [hn]; exact r.blk.cell (j := 0) rfl
  replace hn := Lib.hid hn
  clear h h' r hv hold holds
  go_enter Try.func19, Try.ntmps19
  go_wp2_with fail
  go_loopw [11] (fun i wr => ∃ (j : Nat) (F1 : List Nat), j ≤ n ∧ i = .int .i64 (j : Int) ∧ Hid ((BayT b (y.cutPart (ds.map (·.bs)) j) F1).P wr) ∧ Hid (∀ k ∈ F1, k ∈ F ∨ w.heap.size ≤ k) ∧ Hid (Chg F w wr)) (fun i _ => n - (intOf i).toNat)
  case atStart => exact ⟨0, F, Nat.zero_le _, rfl, H0, fun k hk => .inl hk, Chg.refl _ _⟩
  case round =>
    obtain ⟨j, F1, hj, rfl, T, HF, C⟩ := hrel
    clear H0 c0
    have hj0 : (0 : Int) ≤ j := Int.natCast_nonneg _
    have TI : BayIn wr b F1 (y.cutPart (ds.map (·.bs)) j) := T.out
    obtain ⟨bt2, vs2, ps2, Fs2, r2⟩ := TI.rep
    have c0 : wr.cell? ⟨b, 0, none⟩ = some (.slice (some ⟨bt2, 0, none⟩) n n) := by
      have := r2.blk.cell (j := 0) rfl
      rw [Bay.cutPart_len, ← hn.out] at this
      exact this
    by_cases hlt : j < n
    · have hj1 : (j : Int) < n := by omega
      obtain ⟨x, hx⟩ : ∃ x, y.slots[j]? = some x := ⟨_, List.getElem?_eq_getElem (by rw [← hn.out]; exact hlt)⟩
      have hx2 := Bay.cutPart_at (ds.map (·.bs)) hx
      have NX := Lib.hid (Bay.cutPart_next (ds.map (·.bs)) hx)
      have VW : Hid (BRs wr (.slice vo ds.length vc) ds) := HV.out.chgOff C.out (fun hne k hk => (HO.out hne k hk).1) (fun d hd hne k hk => (HS.out d hd hne k hk).1)
      have hsz := C.out.size
      by_cases hd : j < ds.length
      · have hd1 : (j : Int) < ds.length := by omega
        obtain ⟨d, hdj⟩ : ∃ d, ds[j]? = some d := ⟨_, List.getElem?_eq_getElem hd⟩
        obtain ⟨vb, vf, rfl, hvb, BI⟩ := VW.out.at hdj
        have hkd : (ds.map (·.bs)).getD j [] = d.bs := by simp [List.getD, hdj]
        rw [hkd] at NX
        have cd := BI.c0
        have CT := Lib.hid (traycut_any TI.lt TI.fit r2 hx2 d.v d.bs BI.rd (fun hne k hk => by
          obtain ⟨q1, q2⟩ := HS.out d (List.mem_of_getElem? hdj) hne k hk
          refine ⟨fun hm => ?_, by omega⟩
          rcases HF.out k hm with q | q
          · exact q1 q
          · omega))
        have E : Hid (∀ w', Turns wr F1 (BayT b ((y.cutPart (ds.map (·.bs)) j).turn j (fun _ => x.cutTo d.bs))) w' → ∃ F2, (BayT b (y.cutPart (ds.map (·.bs)) (j + 1)) F2).P w' ∧ (∀ k ∈ F2, k ∈ F ∨ w.heap.size ≤ k) ∧ Chg F w w') := fun w' t => by
          rw [← NX.out] at t
          obtain ⟨F2, t1, t2, t3⟩ := Turns.chain HF.out C.out t
          exact ⟨F2, t1, t2, t3⟩
        clear TI r2 hx hx2 NX VW BI hkd T HF C
        obtain ⟨dv, db⟩ := d
        dsimp only at cd CT E
        replace hdj := Lib.hid hdj
        go_wp2_with fail
        refine CT.out.mono ?_
        rintro e w2 ⟨rfl, hT⟩
        obtain ⟨F2, t1, t2, t3⟩ := E.out _ hT.out
        replace t1 := Lib.hid t1
        replace t2 := Lib.hid t2
        replace t3 := Lib.hid t3
        clear CT E hT cd c0
        go_wp2_with fail
        exact ⟨⟨j + 1, F2, by omega, by go_num, t1, t2, t3⟩, by simp [intOf]; omega⟩
      · have hd1 : ¬ (j : Int) < ds.length := by omega
        have hkd : (ds.map (·.bs)).getD j [] = [] := by simp [List.getD, List.getElem?_eq_none (show ds.length ≤ j by omega)]
        rw [hkd] at NX
        have CT := Lib.hid (traycut_any TI.lt TI.fit r2 hx2 (.slice none 0 0) [] (.inl ⟨rfl, _, _, rfl⟩) (fun hne => absurd rfl hne))
        have E : Hid (∀ w', Turns wr F1 (BayT b ((y.cutPart (ds.map (·.bs)) j).turn j (fun _ => x.cutTo []))) w' → ∃ F2, (BayT b (y.cutPart (ds.map (·.bs)) (j + 1)) F2).P w' ∧ (∀ k ∈ F2, k ∈ F ∨ w.heap.size ≤ k) ∧ Chg F w w') := fun w' t => by
          rw [← NX.out] at t
          obtain ⟨F2, t1, t2, t3⟩ := Turns.chain HF.out C.out t
          exact ⟨F2, t1, t2, t3⟩
        clear TI r2 hx hx2 NX VW hkd T HF C
        go_wp2_with fail
        refine CT.out.mono ?_
        rintro e w2 ⟨rfl, hT⟩
        obtain ⟨F2, t1, t2, t3⟩ := E.out _ hT.out
        replace t1 := Lib.hid t1
        replace t2 := Lib.hid t2
        replace t3 := Lib.hid t3
        clear CT E hT c0
        go_wp2_with fail
        exact ⟨⟨j + 1, F2, by omega, by go_num, t1, t2, t3⟩, by simp [intOf]; omega⟩
    · obtain rfl : j = n := by omega
      have hB := r2.blk
      have c1 := hB.cell (j := 1) rfl
      have c2 := hB.cell (j := 2) rfl
      have c3 := hB.cell (j := 3) rfl
      have f1 := hB.free 1
      have f2 := hB.free 2
      have f3 := hB.free 3
      have E : Hid (Turns w F (BayT b (y.cut (ds.map (·.bs)))) (((wr.setCell ⟨b, 1, none⟩ (.bool false)).setCell ⟨b, 2, none⟩ (.bool false)).setCell ⟨b, 3, none⟩ (.int .i64 0))) := by
        refine Turns.chain HF.out C.out ?_
        have CC : Chg [b] wr (((wr.setCell ⟨b, 1, none⟩ (.bool false)).setCell ⟨b, 2, none⟩ (.bool false)).setCell ⟨b, 3, none⟩ (.int .i64 0)) := (((Chg.refl _ _).setCell (.inl (by simp)) _).setCell (.inl (by simp)) _).setCell (.inl (by simp)) _
        rw [← Bay.cutPart_all, ← hn.out]
        refine r2.headTurns (y' := { y.cutPart (ds.map (·.bs)) j with dark := false, trip := none }) TI.lt (TI.fit.same rfl (fun m hm => by cases hm)) rfl CC ?_
        exact ((hB.set 1 (.bool false)).set 2 (.bool false)).set 3 (.int .i64 0)
      generalize (Value.bool (y.cutPart (ds.map (·.bs)) j).dark) = z1 at *
      generalize (Value.bool (y.cutPart (ds.map (·.bs)) j).trip.isSome) = z2 at *
      generalize (Value.int IntKind.i64 (((y.cutPart (ds.map (·.bs)) j).trip.getD 0 : Nat) : Int)) = z3 at *
      clear TI r2 hB T HF C
      go_wp2_with fail
      go_end0
      exact ⟨rfl, E⟩

end Go.Proofs.Ytljhpdgjajhgbaa
