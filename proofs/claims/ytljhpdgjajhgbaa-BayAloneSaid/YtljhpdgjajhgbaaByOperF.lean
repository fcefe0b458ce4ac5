/-
  The program's bay: one operation, by a method expression. By an AI agent.
-/
import Derived.Test.YtljhpdgjajhgbaaByMeth
namespace Go.Proofs.Ytljhpdgjajhgbaa
open Go.RowKit Go.Maps

theorem enters_dflush (args : Array Value) (w : World) : (callFunc 17 args).run Try.prog w = .ok (.enter 17 args) w := by
  have h1 : (Try.f17.name == "runtime.NumGoroutine") = false := by kernel_rfl
  have h2 : Try.f17.body.isNone = false := by kernel_rfl
  have h3 : ¬ Try.f17.name = "runtime.NumGoroutine" := by simpa using h1
  have h4 : ¬ Try.f17.body = none := fun e => by rw [e] at h2; cases h2
  simp [callFunc, go_sem, Try.func17, h3, h4]

/-- The method expression (*drive).Flush. -/
def flushV : Value := .func (.methodOf 72 "Flush") #[] #[]

set_option maxHeartbeats 4000000 in
set_option maxRecDepth 100000 in
theorem operateF_any (b : Nat) (F : List Nat) (y : Bay) (w : World) (h : (BayT b y F).P w) (s : Int) (hs : I64 s) (what : Nat) (hw : what = 1 ∨ what = 2 ∨ what = 3) (hl : y.Low 1000000000) (R : Int → World → Prop)
    (hfn : ∀ (k g : Nat) (wA : World), y.startErr s = 0 → Handed w F b y s what k wA → wA.cell? ⟨k, 0, none⟩ = some (.pointer (some ⟨g, 0, none⟩)) → Calls Try.prog 17 #[.pointer (some ⟨g, 0, none⟩)] wA (fun e w' => ∃ n, e = .returned (.int .u16 n) ∧ R n w')) :
    Calls Try.prog 50 #[.pointer (some ⟨b, 0, none⟩), .int .i64 s, .pointer (some ⟨b, 3 + what, none⟩), flushV] w fun e w' =>
      (y.startErr s ≠ 0 ∧ e = .returned (.int .u16 (y.startErr s : Nat)) ∧ Hid (Turns w F (BayT b (y.start s what)) w')) ∨ (y.startErr s = 0 ∧ ∃ n, e = .returned (.int .u16 n) ∧ R n w') := by
  have h' : BayIn w b F y := h
  have HF := Lib.hid hfn
  rcases h'.cases s hs with ⟨his, hd, _, _, D⟩ | ⟨i, x, bt, vs, ps, Fs, rfl, hi, his, hx, hin, hd, _, r, hp, D⟩ | ⟨i, x, bt, vs, ps, Fs, k, d, rfl, hi, his, hx, hin, hd, _, r, hp, hk, D⟩
  · -- no such slot
    have e1 := Bay.start_out his what
    have T0 : Hid (Turns w F (BayT b y) w) := Turns.same (T := BayT b y) h rfl
    rw [e1.1, e1.2]
    replace D := Lib.hid D
    have P : Hid ((1 : Nat) ≠ 0) := by show (1 : Nat) ≠ 0; decide
    clear h h' hd hs his e1 hfn HF hl 
    go_enter Try.func50, Try.ntmps50
    go_wp2_with fail
    refine D.out.mono ?_
    rintro e w1 ⟨rfl, hww⟩
    subst hww
    clear D
    go_wp2_with fail
    go_ret
    exact .inl ⟨P.out, rfl, T0⟩
  · -- no disk in it
    have c1 := r.blk.cell (j := 1) rfl
    cases hdk : y.dark with
    | true =>
      have e1 := Bay.start_dark his hdk what
      have f1 := r.blk.free 1
      have T0 : Hid (Turns w F (BayT b y) (w.setCell ⟨b, 1, none⟩ (.bool true))) := by
        refine r.headTurns (y' := y) h'.lt h'.fit rfl ((Chg.refl _ _).setCell (.inl (by simp)) _) ?_
        have B := r.blk.set 1 (.bool true)
        have e : (bayVals bt y.slots.length y).set 1 (.bool true) = bayVals bt y.slots.length y := by
          show [Value.slice (some ⟨bt, 0, none⟩) y.slots.length y.slots.length, .bool true] ++ _ ++ _ = [Value.slice (some ⟨bt, 0, none⟩) y.slots.length y.slots.length, .bool y.dark] ++ _ ++ _
          rw [hdk]
        rw [e] at B
        exact B
      rw [e1.1, e1.2]
      rw [hdk] at c1
      replace D := Lib.hid D
      have P : Hid ((50 : Nat) ≠ 0) := by show (50 : Nat) ≠ 0; decide
      clear h h' hd hs his e1 hfn HF hl  r hx hin hp hdk hi
      go_enter Try.func50, Try.ntmps50
      go_wp2_with fail
      refine D.out.mono ?_
      rintro e w1 ⟨rfl, hww⟩
      subst hww
      clear D
      go_wp2_with fail
      go_ret
      exact .inl ⟨P.out, rfl, T0⟩
    | false =>
    rw [hdk] at c1
    have SP := Lib.hid (spend_any b 2 _ _ y.trip w r.blk rfl rfl h'.fit.trip)
    by_cases ht : y.trip = some 0
    · have e1 := Bay.start_trip his hdk ht what
      have T0 : Hid (∀ w1, Blk w1 b 71 (vals1 bt y.slots.length y) → Chg [b] w w1 → w1.cell? ⟨b, 1, none⟩ = some (.bool false) ∧ w1.frozen? ⟨b, 1, none⟩ = false ∧ Turns w F (BayT b { y with dark := true, trip := none }) (w1.setCell ⟨b, 1, none⟩ (.bool true))) := fun w1 B1 C1 => by
        refine ⟨?_, B1.free 1, r.headTurns (y' := { y with dark := true, trip := none }) h'.lt (h'.fit.same rfl (fun n hn => by cases hn)) rfl (C1.setCell (.inl (by simp)) _) ?_⟩
        · have := B1.cell (j := 1) rfl
          rw [hdk] at this
          exact this
        · rw [← vals1_zero bt _ y ht]
          exact B1.set 1 _
      rw [e1.1, e1.2]
      rw [ht, show (some (0 : Nat) == some 0) = true from rfl] at SP
      have SPv : Hid (Calls Try.prog 61 #[.pointer (some ⟨b, 2, none⟩)] w fun e w' => e = .returned (.bool true) ∧ Blk w' b 71 (vals1 bt y.slots.length y) ∧ Chg [b] w w') := by
        refine SP.out.mono ?_
        rintro e w' ⟨q1, q2, q3⟩
        refine ⟨q1, ?_, q3.out⟩
        unfold vals1
        rw [ht]
        exact q2.out
      replace D := Lib.hid D
      have P : Hid ((50 : Nat) ≠ 0) := by show (50 : Nat) ≠ 0; decide
      clear SP h h' hd hs his e1 hfn HF hl  r hx hin hp hdk hi
      go_enter Try.func50, Try.ntmps50
      go_wp2_with fail
      refine D.out.mono ?_
      rintro e w1 ⟨rfl, hww⟩
      subst hww
      clear D
      go_wp2_with fail
      refine SPv.out.mono ?_
      rintro e w2 ⟨rfl, q2, q3⟩
      obtain ⟨d1, f1, T2⟩ := T0.out w2 q2 q3
      replace T2 := Lib.hid T2
      clear SPv T0 q2 q3 c1
      go_wp2_with fail
      go_ret
      exact .inl ⟨P.out, rfl, T2⟩
    have SPv : Hid (Calls Try.prog 61 #[.pointer (some ⟨b, 2, none⟩)] w fun e w' => e = .returned (.bool false) ∧ Blk w' b 71 (vals1 bt y.slots.length y) ∧ Chg [b] w w') := by
      refine SP.out.mono ?_
      rintro e w' ⟨q1, q2, q3⟩
      refine ⟨?_, q2.out, q3.out⟩
      rw [q1, show (y.trip == some 0) = false from by simpa using ht]
    clear SP
    obtain ⟨N, hN, hNv, hNs⟩ := vals1_count bt y.slots.length y hw ht hl
    obtain ⟨o, ho⟩ : ∃ o, o = 3 + what := ⟨_, rfl⟩
    rw [← ho] at hNv hNs ⊢
    have hN0 : (0 : Int) ≤ N := Int.natCast_nonneg _
    have hN1 : (N : Int) ≤ 1000000000 := by omega
    have e1 := Bay.start_none his hdk ht hd what
    rw [e1.1, e1.2]
    have T0 : Hid (∀ w1, Blk w1 b 71 (vals1 bt y.slots.length y) → Chg [b] w w1 → w1.cell? ⟨b, o, none⟩ = some (.int .i64 (N : Int)) ∧ w1.frozen? ⟨b, o, none⟩ = false ∧ Turns w F (BayT b (y.counted what)) (w1.setCell ⟨b, o, none⟩ (.int .i64 ((N : Int) + 1)))) := fun w1 B1 C1 => by
      refine ⟨B1.cell hNv, B1.free o, r.headTurns (y' := y.counted what) h'.lt (Bay.counted_fit h'.fit what) rfl (C1.setCell (.inl (by simp)) _) ?_⟩
      have := B1.set o (.int .i64 ((N : Int) + 1))
      rw [hNs] at this
      exact this
    replace D := Lib.hid D
    have P : Hid ((51 : Nat) ≠ 0) := by show (51 : Nat) ≠ 0; decide
    clear h h' hd hs his e1 hfn HF hl  r hx hin hp hdk hi hNv hNs ht hN
    replace ho := Lib.hid ho
    go_enter Try.func50, Try.ntmps50
    go_wp2_with fail
    refine D.out.mono ?_
    rintro e w1 ⟨rfl, hww⟩
    subst hww
    clear D
    go_wp2_with fail
    refine SPv.out.mono ?_
    rintro e w2 ⟨rfl, q2, q3⟩
    obtain ⟨d1, f1, T2⟩ := T0.out w2 q2 q3
    replace T2 := Lib.hid T2
    clear SPv T0 q2 q3 c1
    go_wp2_with fail
    go_ret
    exact .inl ⟨P.out, rfl, T2⟩
  · -- a disk is in it
    have c1 := r.blk.cell (j := 1) rfl
    cases hdk : y.dark with
    | true =>
      have e1 := Bay.start_dark his hdk what
      have f1 := r.blk.free 1
      have T0 : Hid (Turns w F (BayT b y) (w.setCell ⟨b, 1, none⟩ (.bool true))) := by
        refine r.headTurns (y' := y) h'.lt h'.fit rfl ((Chg.refl _ _).setCell (.inl (by simp)) _) ?_
        have B := r.blk.set 1 (.bool true)
        have e : (bayVals bt y.slots.length y).set 1 (.bool true) = bayVals bt y.slots.length y := by
          show [Value.slice (some ⟨bt, 0, none⟩) y.slots.length y.slots.length, .bool true] ++ _ ++ _ = [Value.slice (some ⟨bt, 0, none⟩) y.slots.length y.slots.length, .bool y.dark] ++ _ ++ _
          rw [hdk]
        rw [e] at B
        exact B
      rw [e1.1, e1.2]
      rw [hdk] at c1
      replace D := Lib.hid D
      have P : Hid ((50 : Nat) ≠ 0) := by show (50 : Nat) ≠ 0; decide
      clear h h' hd hs his e1 hfn HF hl  r hx hin hp hk hdk hi
      go_enter Try.func50, Try.ntmps50
      go_wp2_with fail
      refine D.out.mono ?_
      rintro e w1 ⟨rfl, hww⟩
      subst hww
      clear D
      go_wp2_with fail
      go_ret
      exact .inl ⟨P.out, rfl, T0⟩
    | false =>
    rw [hdk] at c1
    have SP := Lib.hid (spend_any b 2 _ _ y.trip w r.blk rfl rfl h'.fit.trip)
    by_cases ht : y.trip = some 0
    · have e1 := Bay.start_trip his hdk ht what
      have T0 : Hid (∀ w1, Blk w1 b 71 (vals1 bt y.slots.length y) → Chg [b] w w1 → w1.cell? ⟨b, 1, none⟩ = some (.bool false) ∧ w1.frozen? ⟨b, 1, none⟩ = false ∧ Turns w F (BayT b { y with dark := true, trip := none }) (w1.setCell ⟨b, 1, none⟩ (.bool true))) := fun w1 B1 C1 => by
        refine ⟨?_, B1.free 1, r.headTurns (y' := { y with dark := true, trip := none }) h'.lt (h'.fit.same rfl (fun n hn => by cases hn)) rfl (C1.setCell (.inl (by simp)) _) ?_⟩
        · have := B1.cell (j := 1) rfl
          rw [hdk] at this
          exact this
        · rw [← vals1_zero bt _ y ht]
          exact B1.set 1 _
      rw [e1.1, e1.2]
      rw [ht, show (some (0 : Nat) == some 0) = true from rfl] at SP
      have SPv : Hid (Calls Try.prog 61 #[.pointer (some ⟨b, 2, none⟩)] w fun e w' => e = .returned (.bool true) ∧ Blk w' b 71 (vals1 bt y.slots.length y) ∧ Chg [b] w w') := by
        refine SP.out.mono ?_
        rintro e w' ⟨q1, q2, q3⟩
        refine ⟨q1, ?_, q3.out⟩
        unfold vals1
        rw [ht]
        exact q2.out
      replace D := Lib.hid D
      have P : Hid ((50 : Nat) ≠ 0) := by show (50 : Nat) ≠ 0; decide
      clear SP h h' hd hs his e1 hfn HF hl  r hx hin hp hk hdk hi
      go_enter Try.func50, Try.ntmps50
      go_wp2_with fail
      refine D.out.mono ?_
      rintro e w1 ⟨rfl, hww⟩
      subst hww
      clear D
      go_wp2_with fail
      refine SPv.out.mono ?_
      rintro e w2 ⟨rfl, q2, q3⟩
      obtain ⟨d1, f1, T2⟩ := T0.out w2 q2 q3
      replace T2 := Lib.hid T2
      clear SPv T0 q2 q3 c1
      go_wp2_with fail
      go_ret
      exact .inl ⟨P.out, rfl, T2⟩
    have SPv : Hid (Calls Try.prog 61 #[.pointer (some ⟨b, 2, none⟩)] w fun e w' => e = .returned (.bool false) ∧ Blk w' b 71 (vals1 bt y.slots.length y) ∧ Chg [b] w w') := by
      refine SP.out.mono ?_
      rintro e w' ⟨q1, q2, q3⟩
      refine ⟨?_, q2.out, q3.out⟩
      rw [q1, show (y.trip == some 0) = false from by simpa using ht]
    clear SP
    obtain ⟨N, hN, hNv, hNs⟩ := vals1_count bt y.slots.length y hw ht hl
    obtain ⟨o, ho⟩ : ∃ o, o = 3 + what := ⟨_, rfl⟩
    rw [← ho] at hNv hNs ⊢
    have hN0 : (0 : Int) ≤ N := Int.natCast_nonneg _
    have hN1 : (N : Int) ≤ 1000000000 := by omega
    have e1 := Bay.start_some his hdk ht hd what
    obtain ⟨g, Fd, hFd, hkd, hb, hdsk⟩ := hk.rep
    have hf0 := (h'.fit.slot hx).devs d (.inl hin)
    have hkF : k ∈ F := r.inF.2.2 i 0 k (by rw [hFd]; exact List.mem_cons_self)
    have hkb : k ≠ b := (r.offb i 0 k (by rw [hFd]; exact List.mem_cons_self)).1
    have hx2 : (y.counted what).slots[i]? = some x := hx
    -- the bay, counted
    have T0 : Hid (∀ w1, Blk w1 b 71 (vals1 bt y.slots.length y) → Chg [b] w w1 → w1.cell? ⟨b, o, none⟩ = some (.int .i64 (N : Int)) ∧ w1.frozen? ⟨b, o, none⟩ = false ∧ Chg [b] w (w1.setCell ⟨b, o, none⟩ (.int .i64 ((N : Int) + 1))) ∧ BRep (w1.setCell ⟨b, o, none⟩ (.int .i64 ((N : Int) + 1))) b F (y.counted what) bt vs ps Fs) := fun w1 B1 C1 => by
      have C2 : Chg [b] w (w1.setCell ⟨b, o, none⟩ (.int .i64 ((N : Int) + 1))) := C1.setCell (.inl (by simp)) _
      refine ⟨B1.cell hNv, B1.free o, C2, r.head (y' := y.counted what) rfl C2 ?_⟩
      have := B1.set o (.int .i64 ((N : Int) + 1))
      rw [hNs] at this
      exact this
    have hbn : b ∉ k :: Fd := fun hm => (r.offb i 0 b (by rw [hFd]; exact hm)).1 rfl
    -- the drive's own block, and its disk, then
    have TD : Hid (∀ w2, Chg [b] w w2 → Blk w2 k 93 (.pointer (some ⟨g, 0, none⟩) :: alVals d.wear) ∧ (DiskT g d.disk Fd).P w2) := fun w2 C2 =>
      ⟨hb.chg C2 (by simpa using hkb), (DiskT g d.disk Fd).stays _ _ _ hdsk C2 (fun j hj hm => hbn (by rw [← List.mem_singleton.1 hm]; exact List.mem_cons_of_mem _ hj))⟩
    -- what is handed on
    have TH : Hid (∀ w2 wA G, Chg [b] w w2 → BRep w2 b F (y.counted what) bt vs ps Fs → DevIn wA k G d.step → (∀ j ∈ G, j ∈ k :: Fd ∨ w2.heap.size ≤ j) → Chg (k :: Fd) w2 wA → Handed w F b y i what k wA) := fun w2 wA G C2 r2 hD hG hC => by
      have hz := C2.size
      have hlt2 : ∀ j ∈ F, j < w2.heap.size := fun j hj => Nat.lt_of_lt_of_le (h'.lt j hj) hz
      obtain ⟨F1, ps', Fs', q1, q2, q3, q4, q5, q6, q7⟩ := r2.innRep hlt2 (Bay.counted_fit h'.fit what) hx2 hp d.step (Dev.step_fit hf0) G hD (fun j hj => by rw [hFd]; exact hG j hj) (by rw [hFd]; exact hC)
      refine ⟨i, F1, bt, vs, ps', Fs', rfl, q1, ?_, ?_, q4, ?_, ?_, fun j hj => ?_, ?_⟩
      · rw [e1.2.2]; exact q2
      · rw [e1.2.2]; exact q3
      · rw [e1.2.2]
        exact Bay.setIn_same (b := y.counted what) his
      · show i < ((y.counted what).turn i _).slots.length
        rw [Bay.turn_len]
        exact hi
      · rcases q6 j hj with q | q
        · exact .inl q
        · exact .inr (Nat.le_trans hz q)
      · exact (C2.mono (by intro j hj; rw [List.mem_singleton.1 hj]; exact r.inF.1)).trans q7
    have HFN : Hid (∀ wA, Handed w F b y i what k wA → wA.cell? ⟨k, 0, none⟩ = some (.pointer (some ⟨g, 0, none⟩)) → Calls Try.prog 17 #[.pointer (some ⟨g, 0, none⟩)] wA (fun e w' => ∃ n, e = .returned (.int .u16 n) ∧ R n w')) := fun wA hA hc => HF.out k g wA e1.1 hA hc
    rw [e1.1]
    replace D := Lib.hid D
    have stp := Lib.hid (Dev.step_eq d)
    have hwr := Lib.hid hf0.2
    replace hkd := Lib.hid hkd
    clear h h' hd hs his e1 hfn HF hl r hx hin hp hk hdk hi hNv hNs ht hN hb hdsk hf0 hkF hkb hx2 hbn hFd
    replace ho := Lib.hid ho
    unfold flushV
    by_cases hwe : d.wear = some 0
    · have e2 : Hid (d.step = ⟨d.disk.fail, none⟩) := by show _ = _; rw [stp.out, if_pos hwe]
      have SD : Hid (∀ w2, Chg [b] w w2 → Calls Try.prog 61 #[.pointer (some ⟨k, 1, none⟩)] w2 fun e w' => e = .returned (.bool true) ∧ Blk w' k 93 [.pointer (some ⟨g, 0, none⟩), .bool false, .int .i64 0] ∧ (DiskT g d.disk Fd).P w' ∧ Chg [k] w2 w') := fun w2 C2 => by
        obtain ⟨B, DK⟩ := TD.out w2 C2
        refine (spend_any k 1 _ _ d.wear w2 B rfl rfl hwr.out).mono ?_
        rintro e w' ⟨rfl, q2, q3⟩
        rw [hwe] at q2 ⊢
        exact ⟨rfl, q2.out, (DiskT g d.disk Fd).stays _ _ _ DK q3.out (fun j hj hm => hkd.out (by rw [← List.mem_singleton.1 hm]; exact hj)), q3.out⟩
      have TH2 : Hid (∀ w2 w3 w4, Chg [b] w w2 → BRep w2 b F (y.counted what) bt vs ps Fs → Blk w3 k 93 [.pointer (some ⟨g, 0, none⟩), .bool false, .int .i64 0] → Chg [k] w2 w3 → Turns w3 Fd (DiskT g d.disk.fail) w4 → Handed w F b y i what k w4) := fun w2 w3 w4 C2 r2 B3 C3 ⟨F2, t1, t2, t3⟩ => by
        have hz := C3.size
        refine TH.out w2 w4 (k :: F2) C2 r2 (by rw [e2.out]; exact ⟨g, F2, rfl, (fun hm => by
          rcases t2 k hm with q | q
          · exact hkd.out q
          · have := B3.lt; omega), B3.chg t3 hkd.out, t1⟩) (fun j hj => ?_) ((C3.mono (by simp)).trans (t3.mono (fun j hj => List.mem_cons_of_mem _ hj)))
        rcases List.mem_cons.1 hj with rfl | hj
        · exact .inl List.mem_cons_self
        · rcases t2 j hj with q | q
          · exact .inl (List.mem_cons_of_mem _ q)
          · exact .inr (Nat.le_trans hz q)
      clear TH TD stp hwr hwe e2
      generalize d.disk = dk at *
      go_enter Try.func50, Try.ntmps50
      go_wp2_with fail
      refine D.out.mono ?_
      rintro e w1 ⟨rfl, hww⟩
      subst hww
      clear D
      go_wp2_with fail
      refine SPv.out.mono ?_
      rintro e w2 ⟨rfl, q2, q3⟩
      obtain ⟨d1, f1, C2, r2⟩ := T0.out w2 q2 q3
      have S2 := Lib.hid (SD.out _ C2)
      replace C2 := Lib.hid C2
      replace r2 := Lib.hid r2
      clear SPv T0 q2 q3 c1 SD
      go_wp2_with fail
      refine S2.out.mono ?_
      rintro e w3 ⟨rfl, B3, DK3, C3⟩
      have c0 := B3.cell (j := 0) rfl
      have FL := Lib.hid (dfail_any g Fd dk w3 DK3)
      replace B3 := Lib.hid B3
      replace C3 := Lib.hid C3
      clear S2 DK3 d1 f1
      go_wp2_with fail
      refine FL.out.mono ?_
      rintro e w4 ⟨rfl, T4⟩
      have cA : w4.cell? ⟨k, 0, none⟩ = some (.pointer (some ⟨g, 0, none⟩)) := by
        obtain ⟨F2, t1, t2, t3⟩ := T4.out
        exact (t3.cell (p := ⟨k, 0, none⟩) B3.out.lt hkd.out).trans (B3.out.cell (j := 0) rfl)
      have CL := Lib.hid (HFN.out w4 (TH2.out _ w3 w4 C2.out r2.out B3.out C3.out T4.out) cA)
      have MM : ∀ n, (method (n + 1) 72 (.pointer (some ⟨k, 0, none⟩)) "Flush").run Try.prog w4 = .ok (17, .pointer (some ⟨g, 0, none⟩)) w4 := fun n => method_flush n k g w4 cA
      have EN := enters_dflush
      clear FL cA T4 TH2 HFN B3 C3 C2 r2 c0
      go_wp2_with fail
      refine CL.out.mono ?_
      rintro e w5 ⟨m, rfl, hR⟩
      replace hR := Lib.hid hR
      clear CL MM EN
      go_wp2_with fail
      go_ret
      exact .inr ⟨trivial, m, rfl, hR.out⟩
    · have e2 : Hid (d.step = ⟨d.disk, spent d.wear⟩) := by show _ = _; rw [stp.out, if_neg hwe]
      have SD : Hid (∀ w2, Chg [b] w w2 → Calls Try.prog 61 #[.pointer (some ⟨k, 1, none⟩)] w2 fun e w' => e = .returned (.bool false) ∧ Blk w' k 93 (.pointer (some ⟨g, 0, none⟩) :: alVals (spent d.wear)) ∧ (DiskT g d.disk Fd).P w' ∧ Chg [k] w2 w') := fun w2 C2 => by
        obtain ⟨B, DK⟩ := TD.out w2 C2
        refine (spend_any k 1 _ _ d.wear w2 B rfl rfl hwr.out).mono ?_
        rintro e w' ⟨rfl, q2, q3⟩
        refine ⟨by rw [show (d.wear == some 0) = false from by simpa using hwe], q2.out, (DiskT g d.disk Fd).stays _ _ _ DK q3.out (fun j hj hm => hkd.out (by rw [← List.mem_singleton.1 hm]; exact hj)), q3.out⟩
      have TH2 : Hid (∀ w2 w3, Chg [b] w w2 → BRep w2 b F (y.counted what) bt vs ps Fs → Blk w3 k 93 (.pointer (some ⟨g, 0, none⟩) :: alVals (spent d.wear)) → (DiskT g d.disk Fd).P w3 → Chg [k] w2 w3 → Handed w F b y i what k w3) := fun w2 w3 C2 r2 B3 DK3 C3 => by
        refine TH.out w2 w3 (k :: Fd) C2 r2 (by rw [e2.out]; exact ⟨g, Fd, rfl, hkd.out, B3, DK3⟩) (fun j hj => .inl hj) (C3.mono (by simp))
      clear TH TD stp hwr hwe e2 hkd
      generalize d.disk = dk at *
      generalize alVals (spent d.wear) = al at *
      go_enter Try.func50, Try.ntmps50
      go_wp2_with fail
      refine D.out.mono ?_
      rintro e w1 ⟨rfl, hww⟩
      subst hww
      clear D
      go_wp2_with fail
      refine SPv.out.mono ?_
      rintro e w2 ⟨rfl, q2, q3⟩
      obtain ⟨d1, f1, C2, r2⟩ := T0.out w2 q2 q3
      have S2 := Lib.hid (SD.out _ C2)
      replace C2 := Lib.hid C2
      replace r2 := Lib.hid r2
      clear SPv T0 q2 q3 c1 SD
      go_wp2_with fail
      refine S2.out.mono ?_
      rintro e w3 ⟨rfl, B3, DK3, C3⟩
      have cA : w3.cell? ⟨k, 0, none⟩ = some (.pointer (some ⟨g, 0, none⟩)) := B3.cell (j := 0) rfl
      have CL := Lib.hid (HFN.out w3 (TH2.out _ w3 C2.out r2.out B3 DK3 C3) cA)
      have MM : ∀ n, (method (n + 1) 72 (.pointer (some ⟨k, 0, none⟩)) "Flush").run Try.prog w3 = .ok (17, .pointer (some ⟨g, 0, none⟩)) w3 := fun n => method_flush n k g w3 cA
      have EN := enters_dflush
      clear cA
      clear TH2 HFN B3 C3 C2 r2 S2 DK3 d1 f1
      go_wp2_with fail
      refine CL.out.mono ?_
      rintro e w5 ⟨m, rfl, hR⟩
      replace hR := Lib.hid hR
      clear CL MM EN
      go_wp2_with fail
      go_ret
      exact .inr ⟨trivial, m, rfl, hR.out⟩

end Go.Proofs.Ytljhpdgjajhgbaa
