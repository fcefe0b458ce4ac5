/-
  The program's bay: cut of a slot, Pull, Push, Swap, Load. By an AI agent.
-/
import Derived.Test.YtljhpdgjajhgbaaByMove
namespace Go.Proofs.Ytljhpdgjajhgbaa
open Go.RowKit Go.Maps

set_option maxHeartbeats 2000000 in
set_option maxRecDepth 100000 in
theorem traycut_any {w : World} {b : Nat} {F : List Nat} {y : Bay} {bt : Nat} {vs : List Value} {ps : Nat → Nat → Option Nat} {Fs : Nat → Nat → List Nat} (hlt : ∀ k ∈ F, k < w.heap.size) (hf : y.Fit) (r : BRep w b F y bt vs ps Fs) {i : Nat} {x : Slot} (hx : y.slots[i]? = some x)
    (v : Value) (keep : List Bool) (hv : RdV w v (keep.map Value.bool)) (hold : keep ≠ [] → ∀ k, v.ownBlock = some k → k ∉ F ∧ k < w.heap.size) :
    Calls Try.prog 46 #[.pointer (some ⟨bt, i * 3, none⟩), v] w fun e w' => e = .returned (.tuple #[]) ∧ Hid (Turns w F (BayT b (y.turn i (fun _ => x.cutTo keep))) w') := by
  have hi := (List.getElem?_eq_some_iff.1 hx).1
  have hs := hf.slot hx
  have c0 := r.tr.cell (r.ptr i 0 hi (by decide))
  have c2 := ptrV_get r.tr (r.ptr i 2 hi (by decide))
  have d0 := r.dev i 0
  have d2 := r.dev i 2
  rw [Bay.place_of hx] at d0 d2
  cases hin : x.inn with
  | none =>
    have p0 := (d0.isNone (show x.get 0 = none from hin)).1
    cases hcm : x.coming with
    | none =>
      have p2 := (d2.isNone (show x.get 2 = none from hcm)).1
      have e1 : x.cutTo keep = x := by
        unfold Slot.cutTo
        rw [hcm]
        simp only
        rw [hin]
        cases x
        simp_all
      have T0 : Hid (Turns w F (BayT b (y.turn i (fun _ => x.cutTo keep))) w) := by
        rw [e1, Bay.turn_self hx]
        exact Turns.same (T := BayT b y) ⟨hlt, hf, bt, vs, ps, Fs, r⟩ rfl
      rw [p0] at c0
      rw [p2] at c2
      replace c0 : w.cell? ⟨bt, i * 3, none⟩ = some (.pointer none) := c0
      replace c2 : w.cell? ⟨bt, i * 3 + 2, none⟩ = some (.pointer none) := c2
      clear hlt hf r hx hi hs d0 d2 hin hcm p0 p2 e1 hv hold
      go_enter Try.func46, Try.ntmps46
      go_wp2_with fail
      go_end0
      exact ⟨rfl, T0⟩
    | some c =>
      obtain ⟨k, p2, _⟩ := d2.isSome (show x.get 2 = some c from hcm)
      have e1 : x.cutTo keep = { x with inn := some c, coming := none } := by
        unfold Slot.cutTo
        rw [hcm]
      have f0 := r.tr.free (i * 3)
      have f2 := r.tr.free (i * 3 + 2)
      have T0 : Hid (Turns w F (BayT b (y.turn i (fun _ => x.cutTo keep))) ((w.setCell ⟨bt, i * 3, none⟩ (.pointer (some ⟨k, 0, none⟩))).setCell ⟨bt, i * 3 + 2, none⟩ (.pointer none))) := by
        rw [e1]
        refine r.come hlt hf hx hcm (((Chg.refl _ _).setCell (.inl (by simp)) _).setCell (.inl (by simp)) _) ?_
        rw [p2]
        exact (r.tr.set _ _).set _ _
      rw [p0] at c0
      rw [p2] at c2
      replace c0 : w.cell? ⟨bt, i * 3, none⟩ = some (.pointer none) := c0
      replace c2 : w.cell? ⟨bt, i * 3 + 2, none⟩ = some (.pointer (some ⟨k, 0, none⟩)) := c2
      clear hlt hf r hx hi hs d0 d2 hin hcm p0 p2 e1 hv hold
      go_enter Try.func46, Try.ntmps46
      go_wp2_with fail
      go_end0
      exact ⟨rfl, T0⟩
  | some d =>
    obtain ⟨kd, p0, hk⟩ := d0.isSome (show x.get 0 = some d from hin)
    obtain ⟨g, Fd, hFd, hkd, hb, hdk⟩ := hk.rep
    have cd := hb.cell (j := 0) rfl
    have hdi : ∀ q ∈ Fd, q ∈ F := fun q hq => r.inF.2.2 i 0 q (by rw [hFd]; exact List.mem_cons_of_mem _ hq)
    have CR := Lib.hid (dcrash_any g Fd d.disk v keep w hdk hv (fun hne q hq => ⟨fun hm => (hold hne q hq).1 (hdi q hm), (hold hne q hq).2⟩))
    have hbt : bt ∉ Fd := fun hm => (r.offb i 0 bt (by rw [hFd]; exact List.mem_cons_of_mem _ hm)).2 rfl
    have BT := Lib.hid r.tr
    cases hcm : x.coming with
    | none =>
      have p2 := (d2.isNone (show x.get 2 = none from hcm)).1
      have e1 : x.cutTo keep = { x with inn := some (d.lay (d.disk.crash keep)) } := by
        unfold Slot.cutTo
        rw [hcm]
        simp only
        rw [hin]
        rfl
      have T0 : Hid (∀ w', Turns w Fd (DiskT g (d.disk.crash keep)) w' → Turns w F (BayT b (y.turn i (fun _ => x.cutTo keep))) w') := fun w' ⟨F2, h1, h2, h3⟩ => by
        rw [e1]
        have hf0 := hs.devs d (.inl hin)
        have e2 : y.turn i (fun _ => { x with inn := some (d.lay (d.disk.crash keep)) }) = y.setIn i (d.lay (d.disk.crash keep)) := (Bay.turn_const (fun x => { x with inn := some (d.lay (d.disk.crash keep)) }) hx).symm
        rw [e2]
        refine r.inn hlt hf hx p0 (d.lay (d.disk.crash keep)) ⟨hf0.1.crash keep, hf0.2⟩ (kd :: F2) ⟨g, F2, rfl, fun hm => ?_, hb.chg h3 hkd, h1⟩ (fun j hj => ?_) (h3.mono (by rw [hFd]; intro q hq; exact List.mem_cons_of_mem _ hq))
        · rcases h2 kd hm with q | q
          · exact hkd q
          · have := hb.lt; omega
        · rw [hFd]
          rcases List.mem_cons.1 hj with rfl | hj
          · exact .inl List.mem_cons_self
          · exact (h2 j hj).imp (List.mem_cons_of_mem _) id
      have C2x : Hid (∀ w', Turns w Fd (DiskT g (d.disk.crash keep)) w' → w'.cell? ⟨bt, i * 3 + 2, none⟩ = some (.pointer none)) := fun w' ⟨F2, h1, h2, h3⟩ => by
        rw [p2] at c2
        exact (h3.cell (p := ⟨bt, i * 3 + 2, none⟩) r.tr.lt hbt).trans c2
      rw [p0] at c0
      replace c0 : w.cell? ⟨bt, i * 3, none⟩ = some (.pointer (some ⟨kd, 0, none⟩)) := c0
      clear hlt hf r hx hi hs d0 d2 hin hcm p0 p2 e1 hv hold c2 hk hb hdk hdi hFd hkd hbt BT
      go_enter Try.func46, Try.ntmps46
      go_wp2_with fail
      refine CR.out.mono ?_
      rintro e w1 ⟨rfl, hT⟩
      have c2 := C2x.out _ hT
      have T1 := Lib.hid (T0.out _ hT)
      clear CR T0 C2x hT
      go_wp2_with fail
      go_end0
      exact ⟨rfl, T1⟩
    | some c =>
      obtain ⟨k, p2, _⟩ := d2.isSome (show x.get 2 = some c from hcm)
      have e1 : x.cutTo keep = { x with inn := some c, coming := none } := by
        unfold Slot.cutTo
        rw [hcm]
      have T0 : Hid (∀ w', Turns w Fd (DiskT g (d.disk.crash keep)) w' → Turns w F (BayT b (y.turn i (fun _ => x.cutTo keep))) ((w'.setCell ⟨bt, i * 3, none⟩ (.pointer (some ⟨k, 0, none⟩))).setCell ⟨bt, i * 3 + 2, none⟩ (.pointer none))) := fun w' ⟨F2, h1, h2, h3⟩ => by
        rw [e1]
        refine r.come hlt hf hx hcm (((h3.mono (by rw [hFd]; intro q hq; simp [hq])).setCell (.inl (by simp)) _).setCell (.inl (by simp)) _) ?_
        rw [p2]
        exact ((r.tr.chg h3 hbt).set _ _).set _ _
      have C2x : Hid (∀ w', Turns w Fd (DiskT g (d.disk.crash keep)) w' → w'.cell? ⟨bt, i * 3 + 2, none⟩ = some (.pointer (some ⟨k, 0, none⟩)) ∧ w'.cell? ⟨bt, i * 3, none⟩ = some (.pointer (some ⟨kd, 0, none⟩)) ∧ w'.frozen? ⟨bt, i * 3, none⟩ = false ∧ w'.frozen? ⟨bt, i * 3 + 2, none⟩ = false) := fun w' ⟨F2, h1, h2, h3⟩ => by
        rw [p2] at c2
        rw [p0] at c0
        exact ⟨(h3.cell (p := ⟨bt, i * 3 + 2, none⟩) r.tr.lt hbt).trans c2, (h3.cell (p := ⟨bt, i * 3, none⟩) r.tr.lt hbt).trans c0, (r.tr.chg h3 hbt).free _, (r.tr.chg h3 hbt).free _⟩
      rw [p0] at c0
      replace c0 : w.cell? ⟨bt, i * 3, none⟩ = some (.pointer (some ⟨kd, 0, none⟩)) := c0
      clear hlt hf r hx hi hs d0 d2 hin hcm p0 p2 e1 hv hold c2 hk hb hdk hdi hFd hkd hbt BT
      go_enter Try.func46, Try.ntmps46
      go_wp2_with fail
      refine CR.out.mono ?_
      rintro e w1 ⟨rfl, hT⟩
      obtain ⟨c2, c0b, f0, f2⟩ := C2x.out _ hT
      have T1 := Lib.hid (T0.out _ hT)
      clear CR T0 C2x hT
      go_wp2_with fail
      go_end0
      exact ⟨rfl, T1⟩

section
variable (b : Nat) (F : List Nat) (y : Bay) (w : World) (h : (BayT b y F).P w)
include h

set_option maxHeartbeats 2000000 in
set_option maxRecDepth 100000 in
theorem bpull_any (s : Int) (hs : I64 s) : Calls Try.prog 30 #[.pointer (some ⟨b, 0, none⟩), .int .i64 s] w fun e w' => e = .returned (.int .u16 (y.there s : Nat)) ∧ Hid (Turns w F (BayT b (y.pull s)) w') := by
  have h' : BayIn w b F y := h
  have T0 : Hid (Turns w F (BayT b y) w) := Turns.same (T := BayT b y) h rfl
  unfold Bay.pull
  rcases h'.cases s hs with ⟨_, hd, ht, _, D⟩ | ⟨i, x, bt, vs, ps, Fs, rfl, _, _, _, _, hd, ht, _, _, D⟩ | ⟨i, x, bt, vs, ps, Fs, k, d, rfl, hi, _, hx, hin, hd, ht, r, hp, hk, D⟩
  · replace D := Lib.hid D
    rw [hd, ht]
    clear h h' hd hs ht
    go_enter Try.func30, Try.ntmps30
    go_wp2_with fail
    refine D.out.mono ?_
    rintro e w1 ⟨rfl, hw⟩
    subst hw
    clear D
    go_wp2_with fail
    go_ret
    exact ⟨rfl, T0⟩
  · replace D := Lib.hid D
    rw [hd, ht]
    clear h h' hd hs ht
    go_enter Try.func30, Try.ntmps30
    go_wp2_with fail
    refine D.out.mono ?_
    rintro e w1 ⟨rfl, hw⟩
    subst hw
    clear D
    go_wp2_with fail
    go_ret
    exact ⟨rfl, T0⟩
  · obtain ⟨g, Fd, hFd, hkd, hb, hdk⟩ := hk.rep
    have cd := hb.cell (j := 0) rfl
    have T := Lib.hid (dcrash_any g Fd d.disk (.slice none 0 0) [] w hdk (.inl ⟨rfl, _, _, rfl⟩) (fun hn => absurd rfl hn))
    have hbt : bt ∉ Fd := fun hm => (r.offb i 0 bt (by rw [hFd]; exact List.mem_cons_of_mem _ hm)).2 rfl
    have hbF : b ∉ Fd := fun hm => (r.offb i 0 b (by rw [hFd]; exact List.mem_cons_of_mem _ hm)).1 rfl
    have TR : Hid (∀ w', Turns w Fd (DiskT g (d.disk.crash [])) w' → Calls Try.prog 52 #[.pointer (some ⟨b, 0, none⟩), .int .i64 (i : Int)] w' (fun e w'' => e = .returned (.pointer (some ⟨bt, i * 3, none⟩)) ∧ w'' = w') ∧
        w'.cell? ⟨bt, i * 3, none⟩ = some (ptrV (ps i 0)) ∧ w'.cell? ⟨bt, i * 3 + 1, none⟩ = some (ptrV (ps i 1)) ∧ w'.frozen? ⟨bt, i * 3, none⟩ = false ∧ w'.frozen? ⟨bt, i * 3 + 1, none⟩ = false) := fun w' ⟨F2, h1, h2, h3⟩ =>
      ⟨tray_in b bt _ w' ((h3.cell (p := ⟨b, 0, none⟩) r.blk.lt hbF).trans (r.blk.cell (j := 0) rfl)) i hi, (r.tr.chg h3 hbt).cell (r.ptr i 0 hi (by decide)), (r.tr.chg h3 hbt).cell (r.ptr i 1 hi (by decide)), (r.tr.chg h3 hbt).free _, (r.tr.chg h3 hbt).free _⟩
    have R : Hid (∀ w', Turns w Fd (DiskT g (d.disk.crash [])) w' → Turns w F (BayT b (y.turn i (fun x => { x with inn := none, aside := some (d.lay (d.disk.crash [])) }))) ((w'.setCell ⟨bt, i * 3, none⟩ (.pointer none)).setCell ⟨bt, i * 3 + 1, none⟩ (.pointer (some ⟨k, 0, none⟩)))) := fun w' ⟨F2, h1, h2, h3⟩ => by
      have hf0 := (h'.fit.slot hx).devs d (.inl hin)
      have hbw := r.tr.lt
      have C1 : Chg [bt] w' ((w'.setCell ⟨bt, i * 3, none⟩ (.pointer none)).setCell ⟨bt, i * 3 + 1, none⟩ (.pointer (some ⟨k, 0, none⟩))) := ((Chg.refl _ _).setCell (.inl (by simp)) _).setCell (.inl (by simp)) _
      have hkbt : k ≠ bt := fun e => (r.offb i 0 k (by rw [hFd]; exact List.mem_cons_self)).2 e
      rw [Bay.turn_const (fun x => { x with inn := none, aside := some (d.lay (d.disk.crash [])) }) hx]
      refine r.pull h'.lt h'.fit hx (d := d.lay (d.disk.crash [])) ⟨hf0.1.crash [], hf0.2⟩ (Dk.crash_clean hf0.1 []) (k :: F2) ⟨g, F2, rfl, fun hm => ?_, (hb.chg h3 hkd).chg C1 (by simpa using hkbt), (DiskT g _ F2).stays _ _ _ h1 C1 (fun q hq hm => ?_)⟩ (fun j hj => ?_) ((h3.mono (by rw [hFd]; intro q hq; simp [hq])).trans (C1.mono (by simp))) (((r.tr.chg h3 hbt).set _ _).set _ _)
      · rcases h2 k hm with q | q
        · exact hkd q
        · have := hb.lt; omega
      · have e := List.mem_singleton.1 hm
        subst e
        rcases h2 q hq with h | h
        · exact hbt h
        · omega
      · rw [hFd]
        rcases List.mem_cons.1 hj with rfl | hj
        · exact .inl List.mem_cons_self
        · exact (h2 j hj).imp (List.mem_cons_of_mem _) id
    replace D := Lib.hid D
    rw [hd, ht]
    simp only
    clear h h' hx hin hd r hs hi hk hb hdk ht T0 hFd hkd hbt hbF hp
    go_enter Try.func30, Try.ntmps30
    go_wp2_with fail
    refine D.out.mono ?_
    rintro e w1 ⟨rfl, hw⟩
    subst hw
    clear D
    go_wp2_with fail
    refine T.out.mono ?_
    rintro e w2 ⟨rfl, hT⟩
    obtain ⟨TC, c0, c1, f0, f1⟩ := TR.out _ hT
    have T1 := Lib.hid (R.out _ hT)
    replace TC := Lib.hid TC
    clear T R hT TR
    go_wp2_with fail
    refine TC.out.mono ?_
    rintro e w3 ⟨rfl, hw⟩
    subst hw
    clear TC
    go_wp2_with fail
    go_ret
    exact ⟨rfl, T1⟩

set_option maxHeartbeats 2000000 in
set_option maxRecDepth 100000 in
theorem bpush_any (s : Int) (hs : I64 s) : Calls Try.prog 33 #[.pointer (some ⟨b, 0, none⟩), .int .i64 s] w fun e w' => e = .returned (.int .u16 (y.pushErr s : Nat)) ∧ Hid (Turns w F (BayT b (y.push s)) w') := by
  have h' : BayIn w b F y := h
  have T0 : Hid (Turns w F (BayT b y) w) := Turns.same (T := BayT b y) h rfl
  obtain ⟨bt, vs, ps, Fs, r⟩ := h'.rep
  cases his : y.is s with
  | false =>
    have e1 : y.pushErr s = 1 := by unfold Bay.pushErr; rw [his]; rfl
    have e2 : y.push s = y := by unfold Bay.push; rw [if_neg (by rw [e1]; decide)]
    have TR := Lib.hid (tray_out b bt _ w (r.blk.cell (j := 0) rfl) s hs (Bay.out_of his))
    rw [e1, e2]
    clear h h' r e1 e2 his hs
    go_enter Try.func33, Try.ntmps33
    go_wp2_with fail
    refine TR.out.mono ?_
    rintro e w1 ⟨rfl, hw⟩
    subst hw
    clear TR
    go_wp2_with fail
    go_ret
    exact ⟨rfl, T0⟩
  | true =>
    obtain ⟨i, rfl, hi⟩ := Bay.is_some his
    have hx : y.slots[i]? = some y.slots[i] := List.getElem?_eq_getElem hi
    obtain ⟨x, hxe⟩ : ∃ x, x = y.slots[i] := ⟨_, rfl⟩
    rw [← hxe] at hx
    clear hxe
    have TR := Lib.hid (tray_in b bt _ w (r.blk.cell (j := 0) rfl) i hi)
    have c1 := ptrV_get r.tr (r.ptr i 1 hi (by decide))
    have d1 := r.dev i 1
    rw [Bay.place_of hx] at d1
    have eA : (y.slots[(i : Int).toNat]?).bind (·.aside) = x.aside := by rw [Int.toNat_natCast, hx]; rfl
    cases has : x.aside with
    | none =>
      have e1 : y.pushErr i = 51 := by unfold Bay.pushErr; rw [his, eA, has]; rfl
      have e2 : y.push i = y := by unfold Bay.push; rw [if_neg (by rw [e1]; decide)]
      rw [(d1.isNone (show x.get 1 = none from has)).1] at c1
      replace c1 : w.cell? ⟨bt, i * 3 + 1, none⟩ = some (.pointer none) := c1
      rw [e1, e2]
      clear h h' r e1 e2 his hs d1 eA has hx hi
      go_enter Try.func33, Try.ntmps33
      go_wp2_with fail
      refine TR.out.mono ?_
      rintro e w1 ⟨rfl, hw⟩
      subst hw
      clear TR
      go_wp2_with fail
      go_ret
      exact ⟨rfl, T0⟩
    | some a =>
      obtain ⟨k, hk, _⟩ := d1.isSome (show x.get 1 = some a from has)
      have TK := Lib.hid (taken_any r hx)
      rw [hk] at c1
      replace c1 : w.cell? ⟨bt, i * 3 + 1, none⟩ = some (.pointer (some ⟨k, 0, none⟩)) := c1
      have hta := Bay.taken_slot hx
      cases hfl : x.full with
      | true =>
        have e1 : y.pushErr i = 52 := by unfold Bay.pushErr; rw [his, eA, has, hta, hfl]; rfl
        have e2 : y.push i = y := by unfold Bay.push; rw [if_neg (by rw [e1]; decide)]
        have TS : Hid (∀ q, Turns w F (BayT b y) (w.drewN q)) := fun q => ⟨F, (BayT b y F).stays _ _ [] h ((Chg.refl _ _).drewN q) (fun _ _ => by simp), fun k hk => .inl hk, (Chg.refl _ _).drewN q⟩
        rw [hfl] at TK
        rw [e1, e2]
        clear h h' r e1 e2 his hs d1 eA has hx hi hta hk T0
        go_enter Try.func33, Try.ntmps33
        go_wp2_with fail
        refine TR.out.mono ?_
        rintro e w1 ⟨rfl, hw⟩
        subst hw
        clear TR
        go_wp2_with fail
        refine TK.out.mono ?_
        rintro e w1 ⟨rfl, q, hw⟩
        subst hw
        have TS1 := Lib.hid (TS.out q)
        clear TK TS
        go_wp2_with fail
        go_ret
        exact ⟨rfl, TS1⟩
      | false =>
        have e1 : y.pushErr i = 0 := by unfold Bay.pushErr; rw [his, eA, has, hta, hfl]; rfl
        have e2 : y.push i = y.turn i (fun x => { x with aside := none, coming := x.aside }) := by unfold Bay.push; rw [if_pos e1]
        have e3 := Bay.turn_const (fun x => { x with aside := none, coming := x.aside }) hx
        have TS : Hid (∀ q, Turns w F (BayT b (y.turn i (fun x => { x with aside := none, coming := x.aside }))) (((w.drewN q).setCell ⟨bt, i * 3 + 1, none⟩ (.pointer none)).setCell ⟨bt, i * 3 + 2, none⟩ (.pointer (some ⟨k, 0, none⟩)))) := fun q => by
          rw [e3]
          refine r.push h'.lt h'.fit hx ((((Chg.refl _ _).drewN q).setCell (.inl (by simp)) _).setCell (.inl (by simp)) _) ?_
          rw [hk]
          exact ((r.tr.drewN q).set _ _).set _ _
        have CC : Hid (∀ q, (w.drewN q).cell? ⟨bt, i * 3 + 1, none⟩ = some (.pointer (some ⟨k, 0, none⟩)) ∧ (w.drewN q).cell? ⟨bt, i * 3 + 2, none⟩ = some (ptrV (ps i 2)) ∧ (w.drewN q).frozen? ⟨bt, i * 3 + 1, none⟩ = false ∧ (w.drewN q).frozen? ⟨bt, i * 3 + 2, none⟩ = false) := fun q => ⟨c1, (r.tr.drewN q).cell (r.ptr i 2 hi (by decide)), (r.tr.drewN q).free _, (r.tr.drewN q).free _⟩
        rw [hfl] at TK
        rw [e1, e2]
        clear h h' r e1 e2 his hs d1 eA has hx hi hta hk T0 e3
        go_enter Try.func33, Try.ntmps33
        go_wp2_with fail
        refine TR.out.mono ?_
        rintro e w1 ⟨rfl, hw⟩
        subst hw
        clear TR
        go_wp2_with fail
        refine TK.out.mono ?_
        rintro e w1 ⟨rfl, q, hw⟩
        have TS1 := TS.out q
        obtain ⟨g1, g2, g3, g4⟩ := CC.out q
        rw [← hw] at TS1 g1 g2 g3 g4
        replace TS1 := Lib.hid TS1
        clear TK TS CC c1 hw
        go_wp2_with fail
        go_ret
        exact ⟨rfl, TS1⟩

end
end Go.Proofs.Ytljhpdgjajhgbaa
