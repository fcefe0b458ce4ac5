/-
  The program's bay: one operation. By an AI agent.
-/
import Derived.Test.YtljhpdgjajhgbaaByCalls
namespace Go.Proofs.Ytljhpdgjajhgbaa
open Go.RowKit Go.Maps

namespace Bay

theorem start_out {y : Bay} {s : Int} (h : y.is s = false) (what : Nat) : y.startErr s = 1 ∧ y.start s what = y := by
  unfold startErr start
  rw [if_pos h, if_pos h]
  exact ⟨rfl, rfl⟩

theorem start_dark {y : Bay} {s : Int} (h : y.is s = true) (hd : y.dark = true) (what : Nat) : y.startErr s = 50 ∧ y.start s what = y := by
  have h0 : ¬ y.is s = false := by rw [h]; simp
  unfold startErr start
  rw [if_neg h0, if_neg h0, if_pos hd, if_pos hd]
  exact ⟨rfl, rfl⟩

theorem start_trip {y : Bay} {s : Int} (h : y.is s = true) (hd : y.dark = false) (ht : y.trip = some 0) (what : Nat) : y.startErr s = 50 ∧ y.start s what = { y with dark := true, trip := none } := by
  have h0 : ¬ y.is s = false := by rw [h]; simp
  have h1 : ¬ y.dark = true := by rw [hd]; simp
  unfold startErr start
  rw [if_neg h0, if_neg h0, if_neg h1, if_neg h1, if_pos ht, if_pos ht]
  exact ⟨rfl, rfl⟩

theorem start_none {y : Bay} {s : Int} (h : y.is s = true) (hd : y.dark = false) (ht : ¬ y.trip = some 0) (hn : y.dev s = none) (what : Nat) : y.startErr s = 51 ∧ y.start s what = y.counted what := by
  have h0 : ¬ y.is s = false := by rw [h]; simp
  have h1 : ¬ y.dark = true := by rw [hd]; simp
  unfold startErr start
  rw [if_neg h0, if_neg h0, if_neg h1, if_neg h1, if_neg ht, if_neg ht, hn]
  exact ⟨rfl, rfl⟩

theorem start_some {y : Bay} {s : Int} {d : Dev} (h : y.is s = true) (hd : y.dark = false) (ht : ¬ y.trip = some 0) (hn : y.dev s = some d) (what : Nat) : y.startErr s = 0 ∧ y.start s what = (y.counted what).setIn s d.step ∧ y.asked s = d.step := by
  have h0 : ¬ y.is s = false := by rw [h]; simp
  have h1 : ¬ y.dark = true := by rw [hd]; simp
  unfold startErr start asked
  rw [if_neg h0, if_neg h0, if_neg h1, if_neg h1, if_neg ht, if_neg ht, hn]
  exact ⟨rfl, rfl, rfl⟩

end Bay

theorem spent_map {t : Option Nat} (h : ¬ t = some 0) : spent t = t.map (· - 1) := by
  match t, h with
  | none, _ => rfl
  | some 0, h => exact absurd rfl h
  | some (m + 1), _ => rfl

/-- A bay's cells behind 'spend'. -/
def vals1 (bt n : Nat) (y : Bay) : List Value := ((bayVals bt n y).set 2 (.bool (spent y.trip).isSome)).set 3 (.int .i64 (((spent y.trip).getD 0 : Nat) : Int))

theorem vals1_zero (bt n : Nat) (y : Bay) (h : y.trip = some 0) : (vals1 bt n y).set 1 (.bool true) = bayVals bt n { y with dark := true, trip := none } := by
  unfold vals1
  rw [h]
  rfl

theorem vals1_count (bt n : Nat) (y : Bay) {what : Nat} (hw : what = 1 ∨ what = 2 ∨ what = 3) (ht : ¬ y.trip = some 0) (hl : y.Low 1000000000) :
    ∃ N : Nat, N ≤ 1000000000 ∧ (vals1 bt n y)[3 + what]? = some (.int .i64 (N : Int)) ∧ (vals1 bt n y).set (3 + what) (.int .i64 ((N : Int) + 1)) = bayVals bt n (y.counted what) := by
  unfold vals1
  rw [spent_map ht]
  rcases hw with rfl | rfl | rfl
  · exact ⟨y.reads, hl.reads, rfl, rfl⟩
  · exact ⟨y.writes, hl.writes, rfl, rfl⟩
  · exact ⟨y.flushes, hl.flushes, rfl, rfl⟩

theorem Dev.step_eq (d : Dev) : d.step = if d.wear = some 0 then ⟨d.disk.fail, none⟩ else ⟨d.disk, spent d.wear⟩ := by
  obtain ⟨k, wr⟩ := d
  match wr with
  | none => rfl
  | some 0 => rfl
  | some (m + 1) => rfl

theorem spent_le {t : Option Nat} (h : ∀ n, t = some n → n ≤ 9223372036854775807) : ∀ n, spent t = some n → n ≤ 9223372036854775807 := by
  intro n hn
  match t, hn with
  | none, hn => cases hn
  | some 0, hn => cases hn
  | some (m + 1), hn =>
    have := h (m + 1) rfl
    obtain rfl : m = n := by simpa [spent] using hn
    omega

theorem Dev.step_fit {d : Dev} (h : d.disk.Fit ∧ ∀ n, d.wear = some n → n ≤ 9223372036854775807) : d.step.disk.Fit ∧ ∀ n, d.step.wear = some n → n ≤ 9223372036854775807 := by
  rw [Dev.step_eq]
  split
  · exact ⟨h.1.fail, fun n hn => by cases hn⟩
  · exact ⟨h.1, spent_le h.2⟩

theorem Bay.counted_slots (y : Bay) (what : Nat) : (y.counted what).slots = y.slots := rfl

theorem Bay.counted_fit {y : Bay} (h : y.Fit) (what : Nat) : (y.counted what).Fit := by
  refine h.same rfl (fun n hn => ?_)
  have hn2 : y.trip.map (· - 1) = some n := hn
  cases ht : y.trip with
  | none => rw [ht] at hn2; cases hn2
  | some m =>
    rw [ht] at hn2
    have := h.trip m ht
    have : m - 1 = n := by simpa using hn2
    omega

/-- What the closure of an operation is handed: the bay as it stands then, the disk at block k. -/
structure Handed (w : World) (F : List Nat) (b : Nat) (y : Bay) (s : Int) (what : Nat) (k : Nat) (wA : World) : Prop where
  it : ∃ (i : Nat) (F1 : List Nat) (bt : Nat) (vs : List Value) (ps : Nat → Nat → Option Nat) (Fs : Nat → Nat → List Nat), s = i ∧ (∀ j ∈ F1, j < wA.heap.size) ∧ ((y.counted what).setIn s (y.asked s)).Fit ∧
    BRep wA b F1 ((y.counted what).setIn s (y.asked s)) bt vs ps Fs ∧ ps i 0 = some k ∧ ((y.counted what).setIn s (y.asked s)).dev s = some (y.asked s) ∧ i < ((y.counted what).setIn s (y.asked s)).slots.length ∧ (∀ j ∈ F1, j ∈ F ∨ w.heap.size ≤ j) ∧ Chg F w wA

set_option maxHeartbeats 4000000 in
set_option maxRecDepth 100000 in
theorem operate_any (b : Nat) (F : List Nat) (y : Bay) (w : World) (h : (BayT b y F).P w) (s : Int) (hs : I64 s) (what : Nat) (hw : what = 1 ∨ what = 2 ∨ what = 3) (hl : y.Low 1000000000) (fn : Nat) (caps : Array Value)
    (hen : ∀ (args : Array Value) (w : World), (callFunc fn args).run Try.prog w = .ok (.enter fn args) w) (R : Int → World → Prop)
    (hfn : ∀ (k : Nat) (wA : World), y.startErr s = 0 → Handed w F b y s what k wA → Calls Try.prog fn (#[.pointer (some ⟨k, 0, none⟩)] ++ caps) wA (fun e w' => ∃ n, e = .returned (.int .u16 n) ∧ R n w')) :
    Calls Try.prog 50 #[.pointer (some ⟨b, 0, none⟩), .int .i64 s, .pointer (some ⟨b, 3 + what, none⟩), .func (.func fn) #[] caps] w fun e w' =>
      (y.startErr s ≠ 0 ∧ e = .returned (.int .u16 (y.startErr s : Nat)) ∧ Hid (Turns w F (BayT b (y.start s what)) w')) ∨ (y.startErr s = 0 ∧ ∃ n, e = .returned (.int .u16 n) ∧ R n w') := by
  have h' : BayIn w b F y := h
  have HF := Lib.hid hfn
  rcases h'.cases s hs with ⟨his, hd, _, _, D⟩ | ⟨i, x, bt, vs, ps, Fs, rfl, hi, his, hx, hin, hd, _, r, hp, D⟩ | ⟨i, x, bt, vs, ps, Fs, k, d, rfl, hi, his, hx, hin, hd, _, r, hp, hk, D⟩
  · -- no such slot
    have e1 := Bay.start_out his what
    have T0 : Hid (Turns w F (BayT b y) w) := Turns.same (T := BayT b y) h rfl
    rw [e1.1, e1.2]
    replace D := Lib.hid D
    have P : Hid ((1 : Nat) ≠ 0) := by show (1 : Nat) ≠ 0; decide
    clear h h' hd hs his e1 hfn HF hl hen
    go_enter Try.func50, Try.ntmps50
    go_wp2_with fail
    refine D.out.mono ?_
    rintro e w1 ⟨rfl, hww⟩
    subst hww
    clear D
    go_wp2_with fail
    go_ret
    exact .inl ⟨P.out, rfl, T0⟩
  · -- no disk in it
    have c1 := r.blk.cell (j := 1) rfl
    cases hdk : y.dark with
    | true =>
      have e1 := Bay.start_dark his hdk what
      have f1 := r.blk.free 1
      have T0 : Hid (Turns w F (BayT b y) (w.setCell ⟨b, 1, none⟩ (.bool true))) := by
        refine r.headTurns (y' := y) h'.lt h'.fit rfl ((Chg.refl _ _).setCell (.inl (by simp)) _) ?_
        have B := r.blk.set 1 (.bool true)
        have e : (bayVals bt y.slots.length y).set 1 (.bool true) = bayVals bt y.slots.length y := by
          show [Value.slice (some ⟨bt, 0, none⟩) y.slots.length y.slots.length, .bool true] ++ _ ++ _ = [Value.slice (some ⟨bt, 0, none⟩) y.slots.length y.slots.length, .bool y.dark] ++ _ ++ _
          rw [hdk]
        rw [e] at B
        exact B
      rw [e1.1, e1.2]
      rw [hdk] at c1
      replace D := Lib.hid D
      have P : Hid ((50 : Nat) ≠ 0) := by show (50 : Nat) ≠ 0; decide
      clear h h' hd hs his e1 hfn HF hl hen r hx hin hp hdk hi
      go_enter Try.func50, Try.ntmps50
      go_wp2_with fail
      refine D.out.mono ?_
      rintro e w1 ⟨rfl, hww⟩
      subst hww
      clear D
      go_wp2_with fail
      go_ret
      exact .inl ⟨P.out, rfl, T0⟩
    | false =>
    rw [hdk] at c1
    have SP := Lib.hid (spend_any b 2 _ _ y.trip w r.blk rfl rfl h'.fit.trip)
    by_cases ht : y.trip = some 0
    · have e1 := Bay.start_trip his hdk ht what
      have T0 : Hid (∀ w1, Blk w1 b 71 (vals1 bt y.slots.length y) → Chg [b] w w1 → w1.cell? ⟨b, 1, none⟩ = some (.bool false) ∧ w1.frozen? ⟨b, 1, none⟩ = false ∧ Turns w F (BayT b { y with dark := true, trip := none }) (w1.setCell ⟨b, 1, none⟩ (.bool true))) := fun w1 B1 C1 => by
        refine ⟨?_, B1.free 1, r.headTurns (y' := { y with dark := true, trip := none }) h'.lt (h'.fit.same rfl (fun n hn => by cases hn)) rfl (C1.setCell (.inl (by simp)) _) ?_⟩
        · have := B1.cell (j := 1) rfl
          rw [hdk] at this
          exact this
        · rw [← vals1_zero bt _ y ht]
          exact B1.set 1 _
      rw [e1.1, e1.2]
      rw [ht, show (some (0 : Nat) == some 0) = true from rfl] at SP
      have SPv : Hid (Calls Try.prog 61 #[.pointer (some ⟨b, 2, none⟩)] w fun e w' => e = .returned (.bool true) ∧ Blk w' b 71 (vals1 bt y.slots.length y) ∧ Chg [b] w w') := by
        refine SP.out.mono ?_
        rintro e w' ⟨q1, q2, q3⟩
        refine ⟨q1, ?_, q3.out⟩
        unfold vals1
        rw [ht]
        exact q2.out
      replace D := Lib.hid D
      have P : Hid ((50 : Nat) ≠ 0) := by show (50 : Nat) ≠ 0; decide
      clear SP h h' hd hs his e1 hfn HF hl hen r hx hin hp hdk hi
      go_enter Try.func50, Try.ntmps50
      go_wp2_with fail
      refine D.out.mono ?_
      rintro e w1 ⟨rfl, hww⟩
      subst hww
      clear D
      go_wp2_with fail
      refine SPv.out.mono ?_
      rintro e w2 ⟨rfl, q2, q3⟩
      obtain ⟨d1, f1, T2⟩ := T0.out w2 q2 q3
      replace T2 := Lib.hid T2
      clear SPv T0 q2 q3 c1
      go_wp2_with fail
      go_ret
      exact .inl ⟨P.out, rfl, T2⟩
    have SPv : Hid (Calls Try.prog 61 #[.pointer (some ⟨b, 2, none⟩)] w fun e w' => e = .returned (.bool false) ∧ Blk w' b 71 (vals1 bt y.slots.length y) ∧ Chg [b] w w') := by
      refine SP.out.mono ?_
      rintro e w' ⟨q1, q2, q3⟩
      refine ⟨?_, q2.out, q3.out⟩
      rw [q1, show (y.trip == some 0) = false from by simpa using ht]
    clear SP
    obtain ⟨N, hN, hNv, hNs⟩ := vals1_count bt y.slots.length y hw ht hl
    obtain ⟨o, ho⟩ : ∃ o, o = 3 + what := ⟨_, rfl⟩
    rw [← ho] at hNv hNs ⊢
    have hN0 : (0 : Int) ≤ N := Int.natCast_nonneg _
    have hN1 : (N : Int) ≤ 1000000000 := by omega
    have e1 := Bay.start_none his hdk ht hd what
    rw [e1.1, e1.2]
    have T0 : Hid (∀ w1, Blk w1 b 71 (vals1 bt y.slots.length y) → Chg [b] w w1 → w1.cell? ⟨b, o, none⟩ = some (.int .i64 (N : Int)) ∧ w1.frozen? ⟨b, o, none⟩ = false ∧ Turns w F (BayT b (y.counted what)) (w1.setCell ⟨b, o, none⟩ (.int .i64 ((N : Int) + 1)))) := fun w1 B1 C1 => by
      refine ⟨B1.cell hNv, B1.free o, r.headTurns (y' := y.counted what) h'.lt (Bay.counted_fit h'.fit what) rfl (C1.setCell (.inl (by simp)) _) ?_⟩
      have := B1.set o (.int .i64 ((N : Int) + 1))
      rw [hNs] at this
      exact this
    replace D := Lib.hid D
    have P : Hid ((51 : Nat) ≠ 0) := by show (51 : Nat) ≠ 0; decide
    clear h h' hd hs his e1 hfn HF hl hen r hx hin hp hdk hi hNv hNs ht hN
    replace ho := Lib.hid ho
    go_enter Try.func50, Try.ntmps50
    go_wp2_with fail
    refine D.out.mono ?_
    rintro e w1 ⟨rfl, hww⟩
    subst hww
    clear D
    go_wp2_with fail
    refine SPv.out.mono ?_
    rintro e w2 ⟨rfl, q2, q3⟩
    obtain ⟨d1, f1, T2⟩ := T0.out w2 q2 q3
    replace T2 := Lib.hid T2
    clear SPv T0 q2 q3 c1
    go_wp2_with fail
    go_ret
    exact .inl ⟨P.out, rfl, T2⟩
  · -- a disk is in it
    have c1 := r.blk.cell (j := 1) rfl
    cases hdk : y.dark with
    | true =>
      have e1 := Bay.start_dark his hdk what
      have f1 := r.blk.free 1
      have T0 : Hid (Turns w F (BayT b y) (w.setCell ⟨b, 1, none⟩ (.bool true))) := by
        refine r.headTurns (y' := y) h'.lt h'.fit rfl ((Chg.refl _ _).setCell (.inl (by simp)) _) ?_
        have B := r.blk.set 1 (.bool true)
        have e : (bayVals bt y.slots.length y).set 1 (.bool true) = bayVals bt y.slots.length y := by
          show [Value.slice (some ⟨bt, 0, none⟩) y.slots.length y.slots.length, .bool true] ++ _ ++ _ = [Value.slice (some ⟨bt, 0, none⟩) y.slots.length y.slots.length, .bool y.dark] ++ _ ++ _
          rw [hdk]
        rw [e] at B
        exact B
      rw [e1.1, e1.2]
      rw [hdk] at c1
      replace D := Lib.hid D
      have P : Hid ((50 : Nat) ≠ 0) := by show (50 : Nat) ≠ 0; decide
      clear h h' hd hs his e1 hfn HF hl hen r hx hin hp hk hdk hi
      go_enter Try.func50, Try.ntmps50
      go_wp2_with fail
      refine D.out.mono ?_
      rintro e w1 ⟨rfl, hww⟩
      subst hww
      clear D
      go_wp2_with fail
      go_ret
      exact .inl ⟨P.out, rfl, T0⟩
    | false =>
    rw [hdk] at c1
    have SP := Lib.hid (spend_any b 2 _ _ y.trip w r.blk rfl rfl h'.fit.trip)
    by_cases ht : y.trip = some 0
    · have e1 := Bay.start_trip his hdk ht what
      have T0 : Hid (∀ w1, Blk w1 b 71 (vals1 bt y.slots.length y) → Chg [b] w w1 → w1.cell? ⟨b, 1, none⟩ = some (.bool false) ∧ w1.frozen? ⟨b, 1, none⟩ = false ∧ Turns w F (BayT b { y with dark := true, trip := none }) (w1.setCell ⟨b, 1, none⟩ (.bool true))) := fun w1 B1 C1 => by
        refine ⟨?_, B1.free 1, r.headTurns (y' := { y with dark := true, trip := none }) h'.lt (h'.fit.same rfl (fun n hn => by cases hn)) rfl (C1.setCell (.inl (by simp)) _) ?_⟩
        · have := B1.cell (j := 1) rfl
          rw [hdk] at this
          exact this
        · rw [← vals1_zero bt _ y ht]
          exact B1.set 1 _
      rw [e1.1, e1.2]
      rw [ht, show (some (0 : Nat) == some 0) = true from rfl] at SP
      have SPv : Hid (Calls Try.prog 61 #[.pointer (some ⟨b, 2, none⟩)] w fun e w' => e = .returned (.bool true) ∧ Blk w' b 71 (vals1 bt y.slots.length y) ∧ Chg [b] w w') := by
        refine SP.out.mono ?_
        rintro e w' ⟨q1, q2, q3⟩
        refine ⟨q1, ?_, q3.out⟩
        unfold vals1
        rw [ht]
        exact q2.out
      replace D := Lib.hid D
      have P : Hid ((50 : Nat) ≠ 0) := by show (50 : Nat) ≠ 0; decide
      clear SP h h' hd hs his e1 hfn HF hl hen r hx hin hp hk hdk hi
      go_enter Try.func50, Try.ntmps50
      go_wp2_with fail
      refine D.out.mono ?_
      rintro e w1 ⟨rfl, hww⟩
      subst hww
      clear D
      go_wp2_with fail
      refine SPv.out.mono ?_
      rintro e w2 ⟨rfl, q2, q3⟩
      obtain ⟨d1, f1, T2⟩ := T0.out w2 q2 q3
      replace T2 := Lib.hid T2
      clear SPv T0 q2 q3 c1
      go_wp2_with fail
      go_ret
      exact .inl ⟨P.out, rfl, T2⟩
    have SPv : Hid (Calls Try.prog 61 #[.pointer (some ⟨b, 2, none⟩)] w fun e w' => e = .returned (.bool false) ∧ Blk w' b 71 (vals1 bt y.slots.length y) ∧ Chg [b] w w') := by
      refine SP.out.mono ?_
      rintro e w' ⟨q1, q2, q3⟩
      refine ⟨?_, q2.out, q3.out⟩
      rw [q1, show (y.trip == some 0) = false from by simpa using ht]
    clear SP
    obtain ⟨N, hN, hNv, hNs⟩ := vals1_count bt y.slots.length y hw ht hl
    obtain ⟨o, ho⟩ : ∃ o, o = 3 + what := ⟨_, rfl⟩
    rw [← ho] at hNv hNs ⊢
    have hN0 : (0 : Int) ≤ N := Int.natCast_nonneg _
    have hN1 : (N : Int) ≤ 1000000000 := by omega
    have e1 := Bay.start_some his hdk ht hd what
    obtain ⟨g, Fd, hFd, hkd, hb, hdsk⟩ := hk.rep
    have hf0 := (h'.fit.slot hx).devs d (.inl hin)
    have hkF : k ∈ F := r.inF.2.2 i 0 k (by rw [hFd]; exact List.mem_cons_self)
    have hkb : k ≠ b := (r.offb i 0 k (by rw [hFd]; exact List.mem_cons_self)).1
    have hx2 : (y.counted what).slots[i]? = some x := hx
    -- the bay, counted
    have T0 : Hid (∀ w1, Blk w1 b 71 (vals1 bt y.slots.length y) → Chg [b] w w1 → w1.cell? ⟨b, o, none⟩ = some (.int .i64 (N : Int)) ∧ w1.frozen? ⟨b, o, none⟩ = false ∧ Chg [b] w (w1.setCell ⟨b, o, none⟩ (.int .i64 ((N : Int) + 1))) ∧ BRep (w1.setCell ⟨b, o, none⟩ (.int .i64 ((N : Int) + 1))) b F (y.counted what) bt vs ps Fs) := fun w1 B1 C1 => by
      have C2 : Chg [b] w (w1.setCell ⟨b, o, none⟩ (.int .i64 ((N : Int) + 1))) := C1.setCell (.inl (by simp)) _
      refine ⟨B1.cell hNv, B1.free o, C2, r.head (y' := y.counted what) rfl C2 ?_⟩
      have := B1.set o (.int .i64 ((N : Int) + 1))
      rw [hNs] at this
      exact this
    have hbn : b ∉ k :: Fd := fun hm => (r.offb i 0 b (by rw [hFd]; exact hm)).1 rfl
    -- the drive's own block, and its disk, then
    have TD : Hid (∀ w2, Chg [b] w w2 → Blk w2 k 93 (.pointer (some ⟨g, 0, none⟩) :: alVals d.wear) ∧ (DiskT g d.disk Fd).P w2) := fun w2 C2 =>
      ⟨hb.chg C2 (by simpa using hkb), (DiskT g d.disk Fd).stays _ _ _ hdsk C2 (fun j hj hm => hbn (by rw [← List.mem_singleton.1 hm]; exact List.mem_cons_of_mem _ hj))⟩
    -- what is handed on
    have TH : Hid (∀ w2 wA G, Chg [b] w w2 → BRep w2 b F (y.counted what) bt vs ps Fs → DevIn wA k G d.step → (∀ j ∈ G, j ∈ k :: Fd ∨ w2.heap.size ≤ j) → Chg (k :: Fd) w2 wA → Handed w F b y i what k wA) := fun w2 wA G C2 r2 hD hG hC => by
      have hz := C2.size
      have hlt2 : ∀ j ∈ F, j < w2.heap.size := fun j hj => Nat.lt_of_lt_of_le (h'.lt j hj) hz
      obtain ⟨F1, ps', Fs', q1, q2, q3, q4, q5, q6, q7⟩ := r2.innRep hlt2 (Bay.counted_fit h'.fit what) hx2 hp d.step (Dev.step_fit hf0) G hD (fun j hj => by rw [hFd]; exact hG j hj) (by rw [hFd]; exact hC)
      refine ⟨i, F1, bt, vs, ps', Fs', rfl, q1, ?_, ?_, q4, ?_, ?_, fun j hj => ?_, ?_⟩
      · rw [e1.2.2]; exact q2
      · rw [e1.2.2]; exact q3
      · rw [e1.2.2]
        exact Bay.setIn_same (b := y.counted what) his
      · show i < ((y.counted what).turn i _).slots.length
        rw [Bay.turn_len]
        exact hi
      · rcases q6 j hj with q | q
        · exact .inl q
        · exact .inr (Nat.le_trans hz q)
      · exact (C2.mono (by intro j hj; rw [List.mem_singleton.1 hj]; exact r.inF.1)).trans q7
    have HFN : Hid (∀ wA, Handed w F b y i what k wA → Calls Try.prog fn (#[.pointer (some ⟨k, 0, none⟩)] ++ caps) wA (fun e w' => ∃ n, e = .returned (.int .u16 n) ∧ R n w')) := fun wA hA => HF.out k wA e1.1 hA
    rw [e1.1]
    replace D := Lib.hid D
    have stp := Lib.hid (Dev.step_eq d)
    have hwr := Lib.hid hf0.2
    replace hkd := Lib.hid hkd
    clear h h' hd hs his e1 hfn HF hl r hx hin hp hk hdk hi hNv hNs ht hN hb hdsk hf0 hkF hkb hx2 hbn hFd
    replace ho := Lib.hid ho
    by_cases hwe : d.wear = some 0
    · have e2 : Hid (d.step = ⟨d.disk.fail, none⟩) := by show _ = _; rw [stp.out, if_pos hwe]
      have SD : Hid (∀ w2, Chg [b] w w2 → Calls Try.prog 61 #[.pointer (some ⟨k, 1, none⟩)] w2 fun e w' => e = .returned (.bool true) ∧ Blk w' k 93 [.pointer (some ⟨g, 0, none⟩), .bool false, .int .i64 0] ∧ (DiskT g d.disk Fd).P w' ∧ Chg [k] w2 w') := fun w2 C2 => by
        obtain ⟨B, DK⟩ := TD.out w2 C2
        refine (spend_any k 1 _ _ d.wear w2 B rfl rfl hwr.out).mono ?_
        rintro e w' ⟨rfl, q2, q3⟩
        rw [hwe] at q2 ⊢
        exact ⟨rfl, q2.out, (DiskT g d.disk Fd).stays _ _ _ DK q3.out (fun j hj hm => hkd.out (by rw [← List.mem_singleton.1 hm]; exact hj)), q3.out⟩
      have TH2 : Hid (∀ w2 w3 w4, Chg [b] w w2 → BRep w2 b F (y.counted what) bt vs ps Fs → Blk w3 k 93 [.pointer (some ⟨g, 0, none⟩), .bool false, .int .i64 0] → Chg [k] w2 w3 → Turns w3 Fd (DiskT g d.disk.fail) w4 → Handed w F b y i what k w4) := fun w2 w3 w4 C2 r2 B3 C3 ⟨F2, t1, t2, t3⟩ => by
        have hz := C3.size
        refine TH.out w2 w4 (k :: F2) C2 r2 (by rw [e2.out]; exact ⟨g, F2, rfl, (fun hm => by
          rcases t2 k hm with q | q
          · exact hkd.out q
          · have := B3.lt; omega), B3.chg t3 hkd.out, t1⟩) (fun j hj => ?_) ((C3.mono (by simp)).trans (t3.mono (fun j hj => List.mem_cons_of_mem _ hj)))
        rcases List.mem_cons.1 hj with rfl | hj
        · exact .inl List.mem_cons_self
        · rcases t2 j hj with q | q
          · exact .inl (List.mem_cons_of_mem _ q)
          · exact .inr (Nat.le_trans hz q)
      clear TH TD stp hwr hwe e2 hkd
      generalize d.disk = dk at *
      go_enter Try.func50, Try.ntmps50
      go_wp2_with fail
      refine D.out.mono ?_
      rintro e w1 ⟨rfl, hww⟩
      subst hww
      clear D
      go_wp2_with fail
      refine SPv.out.mono ?_
      rintro e w2 ⟨rfl, q2, q3⟩
      obtain ⟨d1, f1, C2, r2⟩ := T0.out w2 q2 q3
      have S2 := Lib.hid (SD.out _ C2)
      replace C2 := Lib.hid C2
      replace r2 := Lib.hid r2
      clear SPv T0 q2 q3 c1 SD
      go_wp2_with fail
      refine S2.out.mono ?_
      rintro e w3 ⟨rfl, B3, DK3, C3⟩
      have c0 := B3.cell (j := 0) rfl
      have FL := Lib.hid (dfail_any g Fd dk w3 DK3)
      replace B3 := Lib.hid B3
      replace C3 := Lib.hid C3
      clear S2 DK3 d1 f1
      go_wp2_with fail
      refine FL.out.mono ?_
      rintro e w4 ⟨rfl, T4⟩
      have CL := Lib.hid (HFN.out w4 (TH2.out _ w3 w4 C2.out r2.out B3.out C3.out T4.out))
      clear FL T4 TH2 HFN B3 C3 C2 r2 c0
      go_wp2_with fail
      refine CL.out.mono ?_
      rintro e w5 ⟨m, rfl, hR⟩
      replace hR := Lib.hid hR
      clear CL
      go_wp2_with fail
      go_ret
      exact .inr ⟨trivial, m, rfl, hR.out⟩
    · have e2 : Hid (d.step = ⟨d.disk, spent d.wear⟩) := by show _ = _; rw [stp.out, if_neg hwe]
      have SD : Hid (∀ w2, Chg [b] w w2 → Calls Try.prog 61 #[.pointer (some ⟨k, 1, none⟩)] w2 fun e w' => e = .returned (.bool false) ∧ Blk w' k 93 (.pointer (some ⟨g, 0, none⟩) :: alVals (spent d.wear)) ∧ (DiskT g d.disk Fd).P w' ∧ Chg [k] w2 w') := fun w2 C2 => by
        obtain ⟨B, DK⟩ := TD.out w2 C2
        refine (spend_any k 1 _ _ d.wear w2 B rfl rfl hwr.out).mono ?_
        rintro e w' ⟨rfl, q2, q3⟩
        refine ⟨by rw [show (d.wear == some 0) = false from by simpa using hwe], q2.out, (DiskT g d.disk Fd).stays _ _ _ DK q3.out (fun j hj hm => hkd.out (by rw [← List.mem_singleton.1 hm]; exact hj)), q3.out⟩
      have TH2 : Hid (∀ w2 w3, Chg [b] w w2 → BRep w2 b F (y.counted what) bt vs ps Fs → Blk w3 k 93 (.pointer (some ⟨g, 0, none⟩) :: alVals (spent d.wear)) → (DiskT g d.disk Fd).P w3 → Chg [k] w2 w3 → Handed w F b y i what k w3) := fun w2 w3 C2 r2 B3 DK3 C3 => by
        refine TH.out w2 w3 (k :: Fd) C2 r2 (by rw [e2.out]; exact ⟨g, Fd, rfl, hkd.out, B3, DK3⟩) (fun j hj => .inl hj) (C3.mono (by simp))
      clear TH TD stp hwr hwe e2 hkd
      generalize d.disk = dk at *
      generalize alVals (spent d.wear) = al at *
      go_enter Try.func50, Try.ntmps50
      go_wp2_with fail
      refine D.out.mono ?_
      rintro e w1 ⟨rfl, hww⟩
      subst hww
      clear D
      go_wp2_with fail
      refine SPv.out.mono ?_
      rintro e w2 ⟨rfl, q2, q3⟩
      obtain ⟨d1, f1, C2, r2⟩ := T0.out w2 q2 q3
      have S2 := Lib.hid (SD.out _ C2)
      replace C2 := Lib.hid C2
      replace r2 := Lib.hid r2
      clear SPv T0 q2 q3 c1 SD
      go_wp2_with fail
      refine S2.out.mono ?_
      rintro e w3 ⟨rfl, B3, DK3, C3⟩
      have CL := Lib.hid (HFN.out w3 (TH2.out _ w3 C2.out r2.out B3 DK3 C3))
      clear TH2 HFN B3 C3 C2 r2 S2 DK3 d1 f1
      go_wp2_with fail
      refine CL.out.mono ?_
      rintro e w5 ⟨m, rfl, hR⟩
      replace hR := Lib.hid hR
      clear CL
      go_wp2_with fail
      go_ret
      exact .inr ⟨trivial, m, rfl, hR.out⟩

end Go.Proofs.Ytljhpdgjajhgbaa
