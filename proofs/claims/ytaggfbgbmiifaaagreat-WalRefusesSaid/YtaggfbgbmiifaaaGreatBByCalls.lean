/-
  The program's bay: what only reads it; Fail, Wear, Trip. By an AI agent.
-/
import Derived.Test.YtaggfbgbmiifaaaGreatBByRep
import Derived.Test.YtaggfbgbmiifaaaGreatBG
namespace Go.Proofs.YtaggfbgbmiifaaaGreat
open Go.RowKit Go.Maps

theorem Bay.out_of {y : Bay} {s : Int} (h : y.is s = false) : s < 0 ∨ (y.slots.length : Int) ≤ s := by
  have := of_decide_eq_false h
  omega

theorem info_counts : (Tryz.prog.info? 73).map (·.size) = some 3 := by kernel_rfl

/-- A slot's disk, as the program finds it. -/
theorem BayIn.cases {w : World} {b : Nat} {F : List Nat} {y : Bay} (h : BayIn w b F y) (s : Int) (hs : I64 s) :
    (y.is s = false ∧ y.dev s = none ∧ y.there s = 1 ∧ (∃ bt vs ps Fs, BRep w b F y bt vs ps Fs) ∧
      Calls Tryz.prog 119 #[.pointer (some ⟨b, 0, none⟩), .int .i64 s] w fun e w' => e = .returned (.tuple #[.pointer none, .int .u16 1]) ∧ w' = w) ∨
    (∃ (i : Nat) (x : Slot) (bt : Nat) (vs : List Value) (ps : Nat → Nat → Option Nat) (Fs : Nat → Nat → List Nat), s = i ∧ i < y.slots.length ∧ y.is s = true ∧ y.slots[i]? = some x ∧ x.inn = none ∧ y.dev s = none ∧ y.there s = 51 ∧ BRep w b F y bt vs ps Fs ∧ ps i 0 = none ∧
      Calls Tryz.prog 119 #[.pointer (some ⟨b, 0, none⟩), .int .i64 s] w fun e w' => e = .returned (.tuple #[.pointer none, .int .u16 51]) ∧ w' = w) ∨
    (∃ (i : Nat) (x : Slot) (bt : Nat) (vs : List Value) (ps : Nat → Nat → Option Nat) (Fs : Nat → Nat → List Nat) (k : Nat) (d : Dev), s = i ∧ i < y.slots.length ∧ y.is s = true ∧ y.slots[i]? = some x ∧ x.inn = some d ∧ y.dev s = some d ∧ y.there s = 0 ∧ BRep w b F y bt vs ps Fs ∧ ps i 0 = some k ∧ DevIn w k (Fs i 0) d ∧
      Calls Tryz.prog 119 #[.pointer (some ⟨b, 0, none⟩), .int .i64 s] w fun e w' => e = .returned (.tuple #[.pointer (some ⟨k, 0, none⟩), .int .u16 0]) ∧ w' = w) := by
  obtain ⟨bt, vs, ps, Fs, r⟩ := h.rep
  have c0 := r.blk.cell (j := 0) rfl
  cases his : y.is s with
  | false =>
    refine .inl ⟨rfl, ?_, ?_, ⟨bt, vs, ps, Fs, r⟩, drive_out b bt _ w c0 s hs (Bay.out_of his)⟩
    · unfold Bay.dev
      rw [his]
      rfl
    · unfold Bay.there
      rw [his]
      rfl
  | true =>
    obtain ⟨i, rfl, hi⟩ := Bay.is_some his
    have hx : y.slots[i]? = some y.slots[i] := List.getElem?_eq_getElem hi
    have hp := r.ptr i 0 hi (by decide)
    have cp := r.tr.cell hp
    have hD := drive_in b bt _ w c0 i hi (ps i 0) cp
    have hd := r.dev i 0
    rw [Bay.place_of hx] at hd
    have hdev : y.dev i = y.slots[i].inn := by
      rw [Bay.dev_place hi, Bay.place_of hx]
      rfl
    cases hin : y.slots[i].inn with
    | none =>
      have hn : y.dev i = none := by rw [hdev, hin]
      have hpn := (hd.isNone (show y.slots[i].get 0 = none from hin)).1
      rw [hpn] at hD
      refine .inr (.inl ⟨i, y.slots[i], bt, vs, ps, Fs, rfl, hi, rfl, hx, hin, hn, ?_, r, hpn, hD⟩)
      unfold Bay.there
      rw [his, hn]
      rfl
    | some d =>
      have hn : y.dev i = some d := by rw [hdev, hin]
      obtain ⟨k, hk, hk2⟩ := hd.isSome (show y.slots[i].get 0 = some d from hin)
      rw [hk] at hD
      exact .inr (.inr ⟨i, y.slots[i], bt, vs, ps, Fs, k, d, rfl, hi, rfl, hx, hin, hn, Bay.there_ok hn, r, hk, hk2, hD⟩)

section
variable (b : Nat) (F : List Nat) (y : Bay) (w : World) (h : (BayT b y F).P w)
include h

set_option maxHeartbeats 1000000 in
set_option maxRecDepth 100000 in
theorem bcounts_any : Calls Tryz.prog 28 #[.pointer (some ⟨b, 0, none⟩)] w fun e w' => e = .returned (.agg #[.int .i64 (y.reads : Int), .int .i64 (y.writes : Int), .int .i64 (y.flushes : Int)]) ∧ Hid (Chg [] w w') := by
  have h' : BayIn w b F y := h
  obtain ⟨bt, vs, ps, Fs, r⟩ := h'.rep
  have hlt := r.blk.lt
  have c4 := r.blk.cell (j := 4) rfl
  have c5 := r.blk.cell (j := 5) rfl
  have c6 := r.blk.cell (j := 6) rfl
  generalize (y.reads : Int) = n4 at *
  generalize (y.writes : Int) = n5 at *
  generalize (y.flushes : Int) = n6 at *
  clear h h' r
  go_enter Tryz.func28, Tryz.ntmps28
  go_wp2_with fail
  refine bodyPost_ret (results_cell_row rfl _ _ w.heap.size _ _ _ _ rfl (Blk.made w [.int .i64 n4, .int .i64 n5, .int .i64 n6] _) Tryz.underlying73 rfl info_counts) rfl ?_
  exact ⟨rfl, (Chg.refl _ w).alloc _⟩

set_option maxHeartbeats 1000000 in
set_option maxRecDepth 100000 in
theorem bimage_any (s : Int) (hs : I64 s) : Calls Tryz.prog 46 #[.pointer (some ⟨b, 0, none⟩), .int .i64 s] w (GivesE w (y.image s) (y.there s)) := by
  have h' : BayIn w b F y := h
  unfold Bay.image
  rcases h'.cases s hs with ⟨_, hd, ht, _, D⟩ | ⟨i, x, bt, vs, ps, Fs, rfl, _, _, _, _, hd, ht, _, _, D⟩ | ⟨i, x, bt, vs, ps, Fs, k, d, rfl, hi, _, hx, hin, hd, ht, r, hp, hk, D⟩
  · replace D := Lib.hid D
    rw [hd, ht]
    clear h h' hd hs ht
    go_enter Tryz.func46, Tryz.ntmps46
    go_wp2_with fail
    refine D.out.mono ?_
    rintro e w1 ⟨rfl, hw⟩
    subst hw
    clear D
    go_wp2_with fail
    go_ret2
    exact ⟨5, _, rfl, World.ownsRow_nil _ _ _ _, Chg.refl _ _⟩
  · replace D := Lib.hid D
    rw [hd, ht]
    clear h h' hd hs ht
    go_enter Tryz.func46, Tryz.ntmps46
    go_wp2_with fail
    refine D.out.mono ?_
    rintro e w1 ⟨rfl, hw⟩
    subst hw
    clear D
    go_wp2_with fail
    go_ret2
    exact ⟨5, _, rfl, World.ownsRow_nil _ _ _ _, Chg.refl _ _⟩
  · obtain ⟨g, Fd, _, _, hb, hdk⟩ := hk.rep
    have cd := hb.cell (j := 0) rfl
    have T := Lib.hid (dimage_any g Fd d.disk w hdk)
    replace D := Lib.hid D
    rw [hd, ht]
    simp only
    clear h h' hx hin hd r hs hp hi hk hb hdk ht
    go_enter Tryz.func46, Tryz.ntmps46
    go_wp2_with fail
    refine D.out.mono ?_
    rintro e w1 ⟨rfl, hw⟩
    subst hw
    clear D
    go_wp2_with fail
    refine T.out.mono ?_
    rintro e w1 ⟨u, rfl, O, C⟩
    clear T
    go_wp2_with fail
    go_ret2
    exact ⟨5, _, rfl, O, C⟩


end
end Go.Proofs.YtaggfbgbmiifaaaGreat

/-
  The program's bay: one operation. By an AI agent.
-/
namespace Go.Proofs.YtaggfbgbmiifaaaGreat
open Go.RowKit Go.Maps

namespace Bay

theorem start_out {y : Bay} {s : Int} (h : y.is s = false) (what : Nat) : y.startErr s = 1 ∧ y.start s what = y := by
  unfold startErr start
  rw [if_pos h, if_pos h]
  exact ⟨rfl, rfl⟩

theorem start_dark {y : Bay} {s : Int} (h : y.is s = true) (hd : y.dark = true) (what : Nat) : y.startErr s = 50 ∧ y.start s what = y := by
  have h0 : ¬ y.is s = false := by rw [h]; simp
  unfold startErr start
  rw [if_neg h0, if_neg h0, if_pos hd, if_pos hd]
  exact ⟨rfl, rfl⟩

theorem start_trip {y : Bay} {s : Int} (h : y.is s = true) (hd : y.dark = false) (ht : y.trip = some 0) (what : Nat) : y.startErr s = 50 ∧ y.start s what = { y with dark := true, trip := none } := by
  have h0 : ¬ y.is s = false := by rw [h]; simp
  have h1 : ¬ y.dark = true := by rw [hd]; simp
  unfold startErr start
  rw [if_neg h0, if_neg h0, if_neg h1, if_neg h1, if_pos ht, if_pos ht]
  exact ⟨rfl, rfl⟩

theorem start_none {y : Bay} {s : Int} (h : y.is s = true) (hd : y.dark = false) (ht : ¬ y.trip = some 0) (hn : y.dev s = none) (what : Nat) : y.startErr s = 51 ∧ y.start s what = y.counted what := by
  have h0 : ¬ y.is s = false := by rw [h]; simp
  have h1 : ¬ y.dark = true := by rw [hd]; simp
  unfold startErr start
  rw [if_neg h0, if_neg h0, if_neg h1, if_neg h1, if_neg ht, if_neg ht, hn]
  exact ⟨rfl, rfl⟩

theorem start_some {y : Bay} {s : Int} {d : Dev} (h : y.is s = true) (hd : y.dark = false) (ht : ¬ y.trip = some 0) (hn : y.dev s = some d) (what : Nat) : y.startErr s = 0 ∧ y.start s what = (y.counted what).setIn s d.step ∧ y.asked s = d.step := by
  have h0 : ¬ y.is s = false := by rw [h]; simp
  have h1 : ¬ y.dark = true := by rw [hd]; simp
  unfold startErr start asked
  rw [if_neg h0, if_neg h0, if_neg h1, if_neg h1, if_neg ht, if_neg ht, hn]
  exact ⟨rfl, rfl, rfl⟩

end Bay

theorem spent_map {t : Option Nat} (h : ¬ t = some 0) : spent t = t.map (· - 1) := by
  match t, h with
  | none, _ => rfl
  | some 0, h => exact absurd rfl h
  | some (m + 1), _ => rfl

/-- A bay's cells behind 'spend'. -/
def vals1 (bt n : Nat) (y : Bay) : List Value := ((bayVals bt n y).set 2 (.bool (spent y.trip).isSome)).set 3 (.int .i64 (((spent y.trip).getD 0 : Nat) : Int))

theorem vals1_zero (bt n : Nat) (y : Bay) (h : y.trip = some 0) : (vals1 bt n y).set 1 (.bool true) = bayVals bt n { y with dark := true, trip := none } := by
  unfold vals1
  rw [h]
  rfl

theorem vals1_count (bt n : Nat) (y : Bay) {what : Nat} (hw : what = 1 ∨ what = 2 ∨ what = 3) (ht : ¬ y.trip = some 0) (hl : y.Low 1000000000) :
    ∃ N : Nat, N ≤ 1000000000 ∧ (vals1 bt n y)[3 + what]? = some (.int .i64 (N : Int)) ∧ (vals1 bt n y).set (3 + what) (.int .i64 ((N : Int) + 1)) = bayVals bt n (y.counted what) := by
  unfold vals1
  rw [spent_map ht]
  rcases hw with rfl | rfl | rfl
  · exact ⟨y.reads, hl.reads, rfl, rfl⟩
  · exact ⟨y.writes, hl.writes, rfl, rfl⟩
  · exact ⟨y.flushes, hl.flushes, rfl, rfl⟩

theorem Dev.step_eq (d : Dev) : d.step = if d.wear = some 0 then ⟨d.disk.fail, none⟩ else ⟨d.disk, spent d.wear⟩ := by
  obtain ⟨k, wr⟩ := d
  match wr with
  | none => rfl
  | some 0 => rfl
  | some (m + 1) => rfl

theorem spent_le {t : Option Nat} (h : ∀ n, t = some n → n ≤ 9223372036854775807) : ∀ n, spent t = some n → n ≤ 9223372036854775807 := by
  intro n hn
  match t, hn with
  | none, hn => cases hn
  | some 0, hn => cases hn
  | some (m + 1), hn =>
    have := h (m + 1) rfl
    obtain rfl : m = n := by simpa [spent] using hn
    omega

theorem Dev.step_fit {d : Dev} (h : d.disk.Fit ∧ ∀ n, d.wear = some n → n ≤ 9223372036854775807) : d.step.disk.Fit ∧ ∀ n, d.step.wear = some n → n ≤ 9223372036854775807 := by
  rw [Dev.step_eq]
  split
  · exact ⟨h.1.fail, fun n hn => by cases hn⟩
  · exact ⟨h.1, spent_le h.2⟩

theorem Bay.counted_fit {y : Bay} (h : y.Fit) (what : Nat) : (y.counted what).Fit := by
  refine h.same rfl (fun n hn => ?_)
  have hn2 : y.trip.map (· - 1) = some n := hn
  cases ht : y.trip with
  | none => rw [ht] at hn2; cases hn2
  | some m =>
    rw [ht] at hn2
    have := h.trip m ht
    have : m - 1 = n := by simpa using hn2
    omega

/-- What the closure of an operation is handed: the bay as it stands then, the disk at block k. -/
structure Handed (w : World) (F : List Nat) (b : Nat) (y : Bay) (s : Int) (what : Nat) (k : Nat) (wA : World) : Prop where
  it : ∃ (i : Nat) (F1 : List Nat) (bt : Nat) (vs : List Value) (ps : Nat → Nat → Option Nat) (Fs : Nat → Nat → List Nat), s = i ∧ (∀ j ∈ F1, j < wA.heap.size) ∧ ((y.counted what).setIn s (y.asked s)).Fit ∧
    BRep wA b F1 ((y.counted what).setIn s (y.asked s)) bt vs ps Fs ∧ ps i 0 = some k ∧ ((y.counted what).setIn s (y.asked s)).dev s = some (y.asked s) ∧ i < ((y.counted what).setIn s (y.asked s)).slots.length ∧ (∀ j ∈ F1, j ∈ F ∨ w.heap.size ≤ j) ∧ Chg F w wA

set_option maxHeartbeats 4000000 in
set_option maxRecDepth 100000 in
theorem operate_any (b : Nat) (F : List Nat) (y : Bay) (w : World) (h : (BayT b y F).P w) (s : Int) (hs : I64 s) (what : Nat) (hw : what = 1 ∨ what = 2 ∨ what = 3) (hl : y.Low 1000000000) (fn : Nat) (caps : Array Value)
    (hen : ∀ (args : Array Value) (w : World), (callFunc fn args).run Tryz.prog w = .ok (.enter fn args) w) (R : Int → World → Prop)
    (hfn : ∀ (k : Nat) (wA : World), y.startErr s = 0 → Handed w F b y s what k wA → Calls Tryz.prog fn (#[.pointer (some ⟨k, 0, none⟩)] ++ caps) wA (fun e w' => ∃ n, e = .returned (.int .u16 n) ∧ R n w')) :
    Calls Tryz.prog 190 #[.pointer (some ⟨b, 0, none⟩), .int .i64 s, .pointer (some ⟨b, 3 + what, none⟩), .func (.func fn) #[] caps] w fun e w' =>
      (y.startErr s ≠ 0 ∧ e = .returned (.int .u16 (y.startErr s : Nat)) ∧ Hid (Turns w F (BayT b (y.start s what)) w')) ∨ (y.startErr s = 0 ∧ ∃ n, e = .returned (.int .u16 n) ∧ R n w') := by
  have h' : BayIn w b F y := h
  have HF := Lib.hid hfn
  rcases h'.cases s hs with ⟨his, hd, _, _, D⟩ | ⟨i, x, bt, vs, ps, Fs, rfl, hi, his, hx, hin, hd, _, r, hp, D⟩ | ⟨i, x, bt, vs, ps, Fs, k, d, rfl, hi, his, hx, hin, hd, _, r, hp, hk, D⟩
  · -- no such slot
    have e1 := Bay.start_out his what
    have T0 : Hid (Turns w F (BayT b y) w) := Turns.same (T := BayT b y) h rfl
    rw [e1.1, e1.2]
    replace D := Lib.hid D
    have P : Hid ((1 : Nat) ≠ 0) := by show (1 : Nat) ≠ 0; decide
    clear h h' hd hs his e1 hfn HF hl hen
    go_enter Tryz.func190, Tryz.ntmps190
    go_wp2_with fail
    refine D.out.mono ?_
    rintro e w1 ⟨rfl, hww⟩
    subst hww
    clear D
    go_wp2_with fail
    go_ret
    exact .inl ⟨P.out, rfl, T0⟩
  · -- no disk in it
    have c1 := r.blk.cell (j := 1) rfl
    cases hdk : y.dark with
    | true =>
      have e1 := Bay.start_dark his hdk what
      have f1 := r.blk.free 1
      have T0 : Hid (Turns w F (BayT b y) (w.setCell ⟨b, 1, none⟩ (.bool true))) := by
        refine r.headTurns (y' := y) h'.lt h'.fit rfl ((Chg.refl _ _).setCell (.inl (by simp)) _) ?_
        have B := r.blk.set 1 (.bool true)
        have e : (bayVals bt y.slots.length y).set 1 (.bool true) = bayVals bt y.slots.length y := by
          show [Value.slice (some ⟨bt, 0, none⟩) y.slots.length y.slots.length, .bool true] ++ _ ++ _ = [Value.slice (some ⟨bt, 0, none⟩) y.slots.length y.slots.length, .bool y.dark] ++ _ ++ _
          rw [hdk]
        rw [e] at B
        exact B
      rw [e1.1, e1.2]
      rw [hdk] at c1
      replace D := Lib.hid D
      have P : Hid ((50 : Nat) ≠ 0) := by show (50 : Nat) ≠ 0; decide
      clear h h' hd hs his e1 hfn HF hl hen r hx hin hp hdk hi
      go_enter Tryz.func190, Tryz.ntmps190
      go_wp2_with fail
      refine D.out.mono ?_
      rintro e w1 ⟨rfl, hww⟩
      subst hww
      clear D
      go_wp2_with fail
      go_ret
      exact .inl ⟨P.out, rfl, T0⟩
    | false =>
    rw [hdk] at c1
    have SP := Lib.hid (spend_any b 2 _ _ y.trip w r.blk rfl rfl h'.fit.trip)
    by_cases ht : y.trip = some 0
    · have e1 := Bay.start_trip his hdk ht what
      have T0 : Hid (∀ w1, Blk w1 b 143 (vals1 bt y.slots.length y) → Chg [b] w w1 → w1.cell? ⟨b, 1, none⟩ = some (.bool false) ∧ w1.frozen? ⟨b, 1, none⟩ = false ∧ Turns w F (BayT b { y with dark := true, trip := none }) (w1.setCell ⟨b, 1, none⟩ (.bool true))) := fun w1 B1 C1 => by
        refine ⟨?_, B1.free 1, r.headTurns (y' := { y with dark := true, trip := none }) h'.lt (h'.fit.same rfl (fun n hn => by cases hn)) rfl (C1.setCell (.inl (by simp)) _) ?_⟩
        · have := B1.cell (j := 1) rfl
          rw [hdk] at this
          exact this
        · rw [← vals1_zero bt _ y ht]
          exact B1.set 1 _
      rw [e1.1, e1.2]
      rw [ht, show (some (0 : Nat) == some 0) = true from rfl] at SP
      have SPv : Hid (Calls Tryz.prog 243 #[.pointer (some ⟨b, 2, none⟩)] w fun e w' => e = .returned (.bool true) ∧ Blk w' b 143 (vals1 bt y.slots.length y) ∧ Chg [b] w w') := by
        refine SP.out.mono ?_
        rintro e w' ⟨q1, q2, q3⟩
        refine ⟨q1, ?_, q3.out⟩
        unfold vals1
        rw [ht]
        exact q2.out
      replace D := Lib.hid D
      have P : Hid ((50 : Nat) ≠ 0) := by show (50 : Nat) ≠ 0; decide
      clear SP h h' hd hs his e1 hfn HF hl hen r hx hin hp hdk hi
      go_enter Tryz.func190, Tryz.ntmps190
      go_wp2_with fail
      refine D.out.mono ?_
      rintro e w1 ⟨rfl, hww⟩
      subst hww
      clear D
      go_wp2_with fail
      refine SPv.out.mono ?_
      rintro e w2 ⟨rfl, q2, q3⟩
      obtain ⟨d1, f1, T2⟩ := T0.out w2 q2 q3
      replace T2 := Lib.hid T2
      clear SPv T0 q2 q3 c1
      go_wp2_with fail
      go_ret
      exact .inl ⟨P.out, rfl, T2⟩
    have SPv : Hid (Calls Tryz.prog 243 #[.pointer (some ⟨b, 2, none⟩)] w fun e w' => e = .returned (.bool false) ∧ Blk w' b 143 (vals1 bt y.slots.length y) ∧ Chg [b] w w') := by
      refine SP.out.mono ?_
      rintro e w' ⟨q1, q2, q3⟩
      refine ⟨?_, q2.out, q3.out⟩
      rw [q1, show (y.trip == some 0) = false from by simpa using ht]
    clear SP
    obtain ⟨N, hN, hNv, hNs⟩ := vals1_count bt y.slots.length y hw ht hl
    obtain ⟨o, ho⟩ : ∃ o, o = 3 + what := ⟨_, rfl⟩
    rw [← ho] at hNv hNs ⊢
    have hN0 : (0 : Int) ≤ N := Int.natCast_nonneg _
    have hN1 : (N : Int) ≤ 1000000000 := by omega
    have e1 := Bay.start_none his hdk ht hd what
    rw [e1.1, e1.2]
    have T0 : Hid (∀ w1, Blk w1 b 143 (vals1 bt y.slots.length y) → Chg [b] w w1 → w1.cell? ⟨b, o, none⟩ = some (.int .i64 (N : Int)) ∧ w1.frozen? ⟨b, o, none⟩ = false ∧ Turns w F (BayT b (y.counted what)) (w1.setCell ⟨b, o, none⟩ (.int .i64 ((N : Int) + 1)))) := fun w1 B1 C1 => by
      refine ⟨B1.cell hNv, B1.free o, r.headTurns (y' := y.counted what) h'.lt (Bay.counted_fit h'.fit what) rfl (C1.setCell (.inl (by simp)) _) ?_⟩
      have := B1.set o (.int .i64 ((N : Int) + 1))
      rw [hNs] at this
      exact this
    replace D := Lib.hid D
    have P : Hid ((51 : Nat) ≠ 0) := by show (51 : Nat) ≠ 0; decide
    clear h h' hd hs his e1 hfn HF hl hen r hx hin hp hdk hi hNv hNs ht hN
    replace ho := Lib.hid ho
    go_enter Tryz.func190, Tryz.ntmps190
    go_wp2_with fail
    refine D.out.mono ?_
    rintro e w1 ⟨rfl, hww⟩
    subst hww
    clear D
    go_wp2_with fail
    refine SPv.out.mono ?_
    rintro e w2 ⟨rfl, q2, q3⟩
    obtain ⟨d1, f1, T2⟩ := T0.out w2 q2 q3
    replace T2 := Lib.hid T2
    clear SPv T0 q2 q3 c1
    go_wp2_with fail
    go_ret
    exact .inl ⟨P.out, rfl, T2⟩
  · -- a disk is in it
    have c1 := r.blk.cell (j := 1) rfl
    cases hdk : y.dark with
    | true =>
      have e1 := Bay.start_dark his hdk what
      have f1 := r.blk.free 1
      have T0 : Hid (Turns w F (BayT b y) (w.setCell ⟨b, 1, none⟩ (.bool true))) := by
        refine r.headTurns (y' := y) h'.lt h'.fit rfl ((Chg.refl _ _).setCell (.inl (by simp)) _) ?_
        have B := r.blk.set 1 (.bool true)
        have e : (bayVals bt y.slots.length y).set 1 (.bool true) = bayVals bt y.slots.length y := by
          show [Value.slice (some ⟨bt, 0, none⟩) y.slots.length y.slots.length, .bool true] ++ _ ++ _ = [Value.slice (some ⟨bt, 0, none⟩) y.slots.length y.slots.length, .bool y.dark] ++ _ ++ _
          rw [hdk]
        rw [e] at B
        exact B
      rw [e1.1, e1.2]
      rw [hdk] at c1
      replace D := Lib.hid D
      have P : Hid ((50 : Nat) ≠ 0) := by show (50 : Nat) ≠ 0; decide
      clear h h' hd hs his e1 hfn HF hl hen r hx hin hp hk hdk hi
      go_enter Tryz.func190, Tryz.ntmps190
      go_wp2_with fail
      refine D.out.mono ?_
      rintro e w1 ⟨rfl, hww⟩
      subst hww
      clear D
      go_wp2_with fail
      go_ret
      exact .inl ⟨P.out, rfl, T0⟩
    | false =>
    rw [hdk] at c1
    have SP := Lib.hid (spend_any b 2 _ _ y.trip w r.blk rfl rfl h'.fit.trip)
    by_cases ht : y.trip = some 0
    · have e1 := Bay.start_trip his hdk ht what
      have T0 : Hid (∀ w1, Blk w1 b 143 (vals1 bt y.slots.length y) → Chg [b] w w1 → w1.cell? ⟨b, 1, none⟩ = some (.bool false) ∧ w1.frozen? ⟨b, 1, none⟩ = false ∧ Turns w F (BayT b { y with dark := true, trip := none }) (w1.setCell ⟨b, 1, none⟩ (.bool true))) := fun w1 B1 C1 => by
        refine ⟨?_, B1.free 1, r.headTurns (y' := { y with dark := true, trip := none }) h'.lt (h'.fit.same rfl (fun n hn => by cases hn)) rfl (C1.setCell (.inl (by simp)) _) ?_⟩
        · have := B1.cell (j := 1) rfl
          rw [hdk] at this
          exact this
        · rw [← vals1_zero bt _ y ht]
          exact B1.set 1 _
      rw [e1.1, e1.2]
      rw [ht, show (some (0 : Nat) == some 0) = true from rfl] at SP
      have SPv : Hid (Calls Tryz.prog 243 #[.pointer (some ⟨b, 2, none⟩)] w fun e w' => e = .returned (.bool true) ∧ Blk w' b 143 (vals1 bt y.slots.length y) ∧ Chg [b] w w') := by
        refine SP.out.mono ?_
        rintro e w' ⟨q1, q2, q3⟩
        refine ⟨q1, ?_, q3.out⟩
        unfold vals1
        rw [ht]
        exact q2.out
      replace D := Lib.hid D
      have P : Hid ((50 : Nat) ≠ 0) := by show (50 : Nat) ≠ 0; decide
      clear SP h h' hd hs his e1 hfn HF hl hen r hx hin hp hk hdk hi
      go_enter Tryz.func190, Tryz.ntmps190
      go_wp2_with fail
      refine D.out.mono ?_
      rintro e w1 ⟨rfl, hww⟩
      subst hww
      clear D
      go_wp2_with fail
      refine SPv.out.mono ?_
      rintro e w2 ⟨rfl, q2, q3⟩
      obtain ⟨d1, f1, T2⟩ := T0.out w2 q2 q3
      replace T2 := Lib.hid T2
      clear SPv T0 q2 q3 c1
      go_wp2_with fail
      go_ret
      exact .inl ⟨P.out, rfl, T2⟩
    have SPv : Hid (Calls Tryz.prog 243 #[.pointer (some ⟨b, 2, none⟩)] w fun e w' => e = .returned (.bool false) ∧ Blk w' b 143 (vals1 bt y.slots.length y) ∧ Chg [b] w w') := by
      refine SP.out.mono ?_
      rintro e w' ⟨q1, q2, q3⟩
      refine ⟨?_, q2.out, q3.out⟩
      rw [q1, show (y.trip == some 0) = false from by simpa using ht]
    clear SP
    obtain ⟨N, hN, hNv, hNs⟩ := vals1_count bt y.slots.length y hw ht hl
    obtain ⟨o, ho⟩ : ∃ o, o = 3 + what := ⟨_, rfl⟩
    rw [← ho] at hNv hNs ⊢
    have hN0 : (0 : Int) ≤ N := Int.natCast_nonneg _
    have hN1 : (N : Int) ≤ 1000000000 := by omega
    have e1 := Bay.start_some his hdk ht hd what
    obtain ⟨g, Fd, hFd, hkd, hb, hdsk⟩ := hk.rep
    have hf0 := (h'.fit.slot hx).devs d (.inl hin)
    have hkF : k ∈ F := r.inF.2.2 i 0 k (by rw [hFd]; exact List.mem_cons_self)
    have hkb : k ≠ b := (r.offb i 0 k (by rw [hFd]; exact List.mem_cons_self)).1
    have hx2 : (y.counted what).slots[i]? = some x := hx
    -- the bay, counted
    have T0 : Hid (∀ w1, Blk w1 b 143 (vals1 bt y.slots.length y) → Chg [b] w w1 → w1.cell? ⟨b, o, none⟩ = some (.int .i64 (N : Int)) ∧ w1.frozen? ⟨b, o, none⟩ = false ∧ Chg [b] w (w1.setCell ⟨b, o, none⟩ (.int .i64 ((N : Int) + 1))) ∧ BRep (w1.setCell ⟨b, o, none⟩ (.int .i64 ((N : Int) + 1))) b F (y.counted what) bt vs ps Fs) := fun w1 B1 C1 => by
      have C2 : Chg [b] w (w1.setCell ⟨b, o, none⟩ (.int .i64 ((N : Int) + 1))) := C1.setCell (.inl (by simp)) _
      refine ⟨B1.cell hNv, B1.free o, C2, r.head (y' := y.counted what) rfl C2 ?_⟩
      have := B1.set o (.int .i64 ((N : Int) + 1))
      rw [hNs] at this
      exact this
    have hbn : b ∉ k :: Fd := fun hm => (r.offb i 0 b (by rw [hFd]; exact hm)).1 rfl
    -- the drive's own block, and its disk, then
    have TD : Hid (∀ w2, Chg [b] w w2 → Blk w2 k 198 (.pointer (some ⟨g, 0, none⟩) :: alVals d.wear) ∧ (DiskT g d.disk Fd).P w2) := fun w2 C2 =>
      ⟨hb.chg C2 (by simpa using hkb), (DiskT g d.disk Fd).stays _ _ _ hdsk C2 (fun j hj hm => hbn (by rw [← List.mem_singleton.1 hm]; exact List.mem_cons_of_mem _ hj))⟩
    -- what is handed on
    have TH : Hid (∀ w2 wA G, Chg [b] w w2 → BRep w2 b F (y.counted what) bt vs ps Fs → DevIn wA k G d.step → (∀ j ∈ G, j ∈ k :: Fd ∨ w2.heap.size ≤ j) → Chg (k :: Fd) w2 wA → Handed w F b y i what k wA) := fun w2 wA G C2 r2 hD hG hC => by
      have hz := C2.size
      have hlt2 : ∀ j ∈ F, j < w2.heap.size := fun j hj => Nat.lt_of_lt_of_le (h'.lt j hj) hz
      obtain ⟨F1, ps', Fs', q1, q2, q3, q4, q5, q6, q7⟩ := r2.innRep hlt2 (Bay.counted_fit h'.fit what) hx2 hp d.step (Dev.step_fit hf0) G hD (fun j hj => by rw [hFd]; exact hG j hj) (by rw [hFd]; exact hC)
      refine ⟨i, F1, bt, vs, ps', Fs', rfl, q1, ?_, ?_, q4, ?_, ?_, fun j hj => ?_, ?_⟩
      · rw [e1.2.2]; exact q2
      · rw [e1.2.2]; exact q3
      · rw [e1.2.2]
        exact Bay.setIn_same (b := y.counted what) his
      · show i < ((y.counted what).turn i _).slots.length
        rw [Bay.turn_len]
        exact hi
      · rcases q6 j hj with q | q
        · exact .inl q
        · exact .inr (Nat.le_trans hz q)
      · exact (C2.mono (by intro j hj; rw [List.mem_singleton.1 hj]; exact r.inF.1)).trans q7
    have HFN : Hid (∀ wA, Handed w F b y i what k wA → Calls Tryz.prog fn (#[.pointer (some ⟨k, 0, none⟩)] ++ caps) wA (fun e w' => ∃ n, e = .returned (.int .u16 n) ∧ R n w')) := fun wA hA => HF.out k wA e1.1 hA
    rw [e1.1]
    replace D := Lib.hid D
    have stp := Lib.hid (Dev.step_eq d)
    have hwr := Lib.hid hf0.2
    replace hkd := Lib.hid hkd
    clear h h' hd hs his e1 hfn HF hl r hx hin hp hk hdk hi hNv hNs ht hN hb hdsk hf0 hkF hkb hx2 hbn hFd
    replace ho := Lib.hid ho
    by_cases hwe : d.wear = some 0
    · have e2 : Hid (d.step = ⟨d.disk.fail, none⟩) := by show _ = _; rw [stp.out, if_pos hwe]
      have SD : Hid (∀ w2, Chg [b] w w2 → Calls Tryz.prog 243 #[.pointer (some ⟨k, 1, none⟩)] w2 fun e w' => e = .returned (.bool true) ∧ Blk w' k 198 [.pointer (some ⟨g, 0, none⟩), .bool false, .int .i64 0] ∧ (DiskT g d.disk Fd).P w' ∧ Chg [k] w2 w') := fun w2 C2 => by
        obtain ⟨B, DK⟩ := TD.out w2 C2
        refine (spend_any k 1 _ _ d.wear w2 B rfl rfl hwr.out).mono ?_
        rintro e w' ⟨rfl, q2, q3⟩
        rw [hwe] at q2 ⊢
        exact ⟨rfl, q2.out, (DiskT g d.disk Fd).stays _ _ _ DK q3.out (fun j hj hm => hkd.out (by rw [← List.mem_singleton.1 hm]; exact hj)), q3.out⟩
      have TH2 : Hid (∀ w2 w3 w4, Chg [b] w w2 → BRep w2 b F (y.counted what) bt vs ps Fs → Blk w3 k 198 [.pointer (some ⟨g, 0, none⟩), .bool false, .int .i64 0] → Chg [k] w2 w3 → Turns w3 Fd (DiskT g d.disk.fail) w4 → Handed w F b y i what k w4) := fun w2 w3 w4 C2 r2 B3 C3 ⟨F2, t1, t2, t3⟩ => by
        have hz := C3.size
        refine TH.out w2 w4 (k :: F2) C2 r2 (by rw [e2.out]; exact ⟨g, F2, rfl, (fun hm => by
          rcases t2 k hm with q | q
          · exact hkd.out q
          · have := B3.lt; omega), B3.chg t3 hkd.out, t1⟩) (fun j hj => ?_) ((C3.mono (by simp)).trans (t3.mono (fun j hj => List.mem_cons_of_mem _ hj)))
        rcases List.mem_cons.1 hj with rfl | hj
        · exact .inl List.mem_cons_self
        · rcases t2 j hj with q | q
          · exact .inl (List.mem_cons_of_mem _ q)
          · exact .inr (Nat.le_trans hz q)
      clear TH TD stp hwr hwe e2 hkd
      generalize d.disk = dk at *
      go_enter Tryz.func190, Tryz.ntmps190
      go_wp2_with fail
      refine D.out.mono ?_
      rintro e w1 ⟨rfl, hww⟩
      subst hww
      clear D
      go_wp2_with fail
      refine SPv.out.mono ?_
      rintro e w2 ⟨rfl, q2, q3⟩
      obtain ⟨d1, f1, C2, r2⟩ := T0.out w2 q2 q3
      have S2 := Lib.hid (SD.out _ C2)
      replace C2 := Lib.hid C2
      replace r2 := Lib.hid r2
      clear SPv T0 q2 q3 c1 SD
      go_wp2_with fail
      refine S2.out.mono ?_
      rintro e w3 ⟨rfl, B3, DK3, C3⟩
      have c0 := B3.cell (j := 0) rfl
      have FL := Lib.hid (dfail_any g Fd dk w3 DK3)
      replace B3 := Lib.hid B3
      replace C3 := Lib.hid C3
      clear S2 DK3 d1 f1
      go_wp2_with fail
      refine FL.out.mono ?_
      rintro e w4 ⟨rfl, T4⟩
      have CL := Lib.hid (HFN.out w4 (TH2.out _ w3 w4 C2.out r2.out B3.out C3.out T4.out))
      clear FL T4 TH2 HFN B3 C3 C2 r2 c0
      go_wp2_with fail
      refine CL.out.mono ?_
      rintro e w5 ⟨m, rfl, hR⟩
      replace hR := Lib.hid hR
      clear CL
      go_wp2_with fail
      go_ret
      exact .inr ⟨trivial, m, rfl, hR.out⟩
    · have e2 : Hid (d.step = ⟨d.disk, spent d.wear⟩) := by show _ = _; rw [stp.out, if_neg hwe]
      have SD : Hid (∀ w2, Chg [b] w w2 → Calls Tryz.prog 243 #[.pointer (some ⟨k, 1, none⟩)] w2 fun e w' => e = .returned (.bool false) ∧ Blk w' k 198 (.pointer (some ⟨g, 0, none⟩) :: alVals (spent d.wear)) ∧ (DiskT g d.disk Fd).P w' ∧ Chg [k] w2 w') := fun w2 C2 => by
        obtain ⟨B, DK⟩ := TD.out w2 C2
        refine (spend_any k 1 _ _ d.wear w2 B rfl rfl hwr.out).mono ?_
        rintro e w' ⟨rfl, q2, q3⟩
        refine ⟨by rw [show (d.wear == some 0) = false from by simpa using hwe], q2.out, (DiskT g d.disk Fd).stays _ _ _ DK q3.out (fun j hj hm => hkd.out (by rw [← List.mem_singleton.1 hm]; exact hj)), q3.out⟩
      have TH2 : Hid (∀ w2 w3, Chg [b] w w2 → BRep w2 b F (y.counted what) bt vs ps Fs → Blk w3 k 198 (.pointer (some ⟨g, 0, none⟩) :: alVals (spent d.wear)) → (DiskT g d.disk Fd).P w3 → Chg [k] w2 w3 → Handed w F b y i what k w3) := fun w2 w3 C2 r2 B3 DK3 C3 => by
        refine TH.out w2 w3 (k :: Fd) C2 r2 (by rw [e2.out]; exact ⟨g, Fd, rfl, hkd.out, B3, DK3⟩) (fun j hj => .inl hj) (C3.mono (by simp))
      clear TH TD stp hwr hwe e2 hkd
      generalize d.disk = dk at *
      generalize alVals (spent d.wear) = al at *
      go_enter Tryz.func190, Tryz.ntmps190
      go_wp2_with fail
      refine D.out.mono ?_
      rintro e w1 ⟨rfl, hww⟩
      subst hww
      clear D
      go_wp2_with fail
      refine SPv.out.mono ?_
      rintro e w2 ⟨rfl, q2, q3⟩
      obtain ⟨d1, f1, C2, r2⟩ := T0.out w2 q2 q3
      have S2 := Lib.hid (SD.out _ C2)
      replace C2 := Lib.hid C2
      replace r2 := Lib.hid r2
      clear SPv T0 q2 q3 c1 SD
      go_wp2_with fail
      refine S2.out.mono ?_
      rintro e w3 ⟨rfl, B3, DK3, C3⟩
      have CL := Lib.hid (HFN.out w3 (TH2.out _ w3 C2.out r2.out B3 DK3 C3))
      clear TH2 HFN B3 C3 C2 r2 S2 DK3 d1 f1
      go_wp2_with fail
      refine CL.out.mono ?_
      rintro e w5 ⟨m, rfl, hR⟩
      replace hR := Lib.hid hR
      clear CL
      go_wp2_with fail
      go_ret
      exact .inr ⟨trivial, m, rfl, hR.out⟩

end Go.Proofs.YtaggfbgbmiifaaaGreat

/-
  The method expression (*drive).Flush: which function it is, and of which disk. By an AI agent.
-/
namespace Go.Proofs.YtaggfbgbmiifaaaGreat
open Go.RowKit Go.Maps

theorem drive_flush : ((Tryz.prog.info? 144).bind fun i => i.methods.find? (·.name == "Flush")).map (fun m => (m.path.toList.map (fun s => (s.struct, s.index, s.deref)), m.func)) = some ([(198, 0, true)], some (225, true)) := by kernel_rfl

theorem method_flush (n k g : Nat) (w : World) (hc : w.cell? ⟨k, 0, none⟩ = some (.pointer (some ⟨g, 0, none⟩))) :
    (method (n + 1) 144 (.pointer (some ⟨k, 0, none⟩)) "Flush").run Tryz.prog w = .ok (225, .pointer (some ⟨g, 0, none⟩)) w := by
  have h := drive_flush
  cases hi : Tryz.prog.info? 144 with
  | none => rw [hi] at h; simp at h
  | some i =>
    rw [hi] at h
    simp only [Option.bind_some] at h
    cases hm : i.methods.find? (·.name == "Flush") with
    | none => rw [hm] at h; simp at h
    | some m =>
      rw [hm] at h
      simp only [Option.map_some, Option.some.injEq, Prod.mk.injEq] at h
      obtain ⟨h1, h2⟩ := h
      obtain ⟨s, hp, hs⟩ : ∃ s : FieldStep, m.path.toList = [s] ∧ (s.struct, s.index, s.deref) = (198, 0, true) := by
        cases hl : m.path.toList with
        | nil => rw [hl] at h1; simp at h1
        | cons s r =>
          cases r with
          | nil => rw [hl] at h1; exact ⟨s, rfl, by simpa using h1⟩
          | cons a b => rw [hl] at h1; simp at h1
      obtain ⟨s1, s2, s3⟩ := s
      obtain ⟨rfl, rfl, rfl⟩ : s1 = 198 ∧ s2 = 0 ∧ s3 = true := by simpa using hs
      simp [method, typeInfo, go_sem, hi, hm, hp, h2, follow, receiverAt, Place.get, fieldPlace, hc]

end Go.Proofs.YtaggfbgbmiifaaaGreat

/-
  The program's bay: one operation, by a method expression. By an AI agent.
-/
namespace Go.Proofs.YtaggfbgbmiifaaaGreat
open Go.RowKit Go.Maps

theorem enters_dflush (args : Array Value) (w : World) : (callFunc 225 args).run Tryz.prog w = .ok (.enter 225 args) w := by
  have h1 : (Tryz.f225.name == "runtime.NumGoroutine") = false := by kernel_rfl
  have h2 : Tryz.f225.body.isNone = false := by kernel_rfl
  have h3 : ¬ Tryz.f225.name = "runtime.NumGoroutine" := by simpa using h1
  have h4 : ¬ Tryz.f225.body = none := fun e => by rw [e] at h2; cases h2
  simp [callFunc, go_sem, Tryz.func225, h3, h4]

/-- The method expression (*drive).Flush. -/
def flushV : Value := .func (.methodOf 144 "Flush") #[] #[]

set_option maxHeartbeats 4000000 in
set_option maxRecDepth 100000 in
theorem operateF_any (b : Nat) (F : List Nat) (y : Bay) (w : World) (h : (BayT b y F).P w) (s : Int) (hs : I64 s) (what : Nat) (hw : what = 1 ∨ what = 2 ∨ what = 3) (hl : y.Low 1000000000) (R : Int → World → Prop)
    (hfn : ∀ (k g : Nat) (wA : World), y.startErr s = 0 → Handed w F b y s what k wA → wA.cell? ⟨k, 0, none⟩ = some (.pointer (some ⟨g, 0, none⟩)) → Calls Tryz.prog 225 #[.pointer (some ⟨g, 0, none⟩)] wA (fun e w' => ∃ n, e = .returned (.int .u16 n) ∧ R n w')) :
    Calls Tryz.prog 190 #[.pointer (some ⟨b, 0, none⟩), .int .i64 s, .pointer (some ⟨b, 3 + what, none⟩), flushV] w fun e w' =>
      (y.startErr s ≠ 0 ∧ e = .returned (.int .u16 (y.startErr s : Nat)) ∧ Hid (Turns w F (BayT b (y.start s what)) w')) ∨ (y.startErr s = 0 ∧ ∃ n, e = .returned (.int .u16 n) ∧ R n w') := by
  have h' : BayIn w b F y := h
  have HF := Lib.hid hfn
  rcases h'.cases s hs with ⟨his, hd, _, _, D⟩ | ⟨i, x, bt, vs, ps, Fs, rfl, hi, his, hx, hin, hd, _, r, hp, D⟩ | ⟨i, x, bt, vs, ps, Fs, k, d, rfl, hi, his, hx, hin, hd, _, r, hp, hk, D⟩
  · -- no such slot
    have e1 := Bay.start_out his what
    have T0 : Hid (Turns w F (BayT b y) w) := Turns.same (T := BayT b y) h rfl
    rw [e1.1, e1.2]
    replace D := Lib.hid D
    have P : Hid ((1 : Nat) ≠ 0) := by show (1 : Nat) ≠ 0; decide
    clear h h' hd hs his e1 hfn HF hl 
    go_enter Tryz.func190, Tryz.ntmps190
    go_wp2_with fail
    refine D.out.mono ?_
    rintro e w1 ⟨rfl, hww⟩
    subst hww
    clear D
    go_wp2_with fail
    go_ret
    exact .inl ⟨P.out, rfl, T0⟩
  · -- no disk in it
    have c1 := r.blk.cell (j := 1) rfl
    cases hdk : y.dark with
    | true =>
      have e1 := Bay.start_dark his hdk what
      have f1 := r.blk.free 1
      have T0 : Hid (Turns w F (BayT b y) (w.setCell ⟨b, 1, none⟩ (.bool true))) := by
        refine r.headTurns (y' := y) h'.lt h'.fit rfl ((Chg.refl _ _).setCell (.inl (by simp)) _) ?_
        have B := r.blk.set 1 (.bool true)
        have e : (bayVals bt y.slots.length y).set 1 (.bool true) = bayVals bt y.slots.length y := by
          show [Value.slice (some ⟨bt, 0, none⟩) y.slots.length y.slots.length, .bool true] ++ _ ++ _ = [Value.slice (some ⟨bt, 0, none⟩) y.slots.length y.slots.length, .bool y.dark] ++ _ ++ _
          rw [hdk]
        rw [e] at B
        exact B
      rw [e1.1, e1.2]
      rw [hdk] at c1
      replace D := Lib.hid D
      have P : Hid ((50 : Nat) ≠ 0) := by show (50 : Nat) ≠ 0; decide
      clear h h' hd hs his e1 hfn HF hl  r hx hin hp hdk hi
      go_enter Tryz.func190, Tryz.ntmps190
      go_wp2_with fail
      refine D.out.mono ?_
      rintro e w1 ⟨rfl, hww⟩
      subst hww
      clear D
      go_wp2_with fail
      go_ret
      exact .inl ⟨P.out, rfl, T0⟩
    | false =>
    rw [hdk] at c1
    have SP := Lib.hid (spend_any b 2 _ _ y.trip w r.blk rfl rfl h'.fit.trip)
    by_cases ht : y.trip = some 0
    · have e1 := Bay.start_trip his hdk ht what
      have T0 : Hid (∀ w1, Blk w1 b 143 (vals1 bt y.slots.length y) → Chg [b] w w1 → w1.cell? ⟨b, 1, none⟩ = some (.bool false) ∧ w1.frozen? ⟨b, 1, none⟩ = false ∧ Turns w F (BayT b { y with dark := true, trip := none }) (w1.setCell ⟨b, 1, none⟩ (.bool true))) := fun w1 B1 C1 => by
        refine ⟨?_, B1.free 1, r.headTurns (y' := { y with dark := true, trip := none }) h'.lt (h'.fit.same rfl (fun n hn => by cases hn)) rfl (C1.setCell (.inl (by simp)) _) ?_⟩
        · have := B1.cell (j := 1) rfl
          rw [hdk] at this
          exact this
        · rw [← vals1_zero bt _ y ht]
          exact B1.set 1 _
      rw [e1.1, e1.2]
      rw [ht, show (some (0 : Nat) == some 0) = true from rfl] at SP
      have SPv : Hid (Calls Tryz.prog 243 #[.pointer (some ⟨b, 2, none⟩)] w fun e w' => e = .returned (.bool true) ∧ Blk w' b 143 (vals1 bt y.slots.length y) ∧ Chg [b] w w') := by
        refine SP.out.mono ?_
        rintro e w' ⟨q1, q2, q3⟩
        refine ⟨q1, ?_, q3.out⟩
        unfold vals1
        rw [ht]
        exact q2.out
      replace D := Lib.hid D
      have P : Hid ((50 : Nat) ≠ 0) := by show (50 : Nat) ≠ 0; decide
      clear SP h h' hd hs his e1 hfn HF hl  r hx hin hp hdk hi
      go_enter Tryz.func190, Tryz.ntmps190
      go_wp2_with fail
      refine D.out.mono ?_
      rintro e w1 ⟨rfl, hww⟩
      subst hww
      clear D
      go_wp2_with fail
      refine SPv.out.mono ?_
      rintro e w2 ⟨rfl, q2, q3⟩
      obtain ⟨d1, f1, T2⟩ := T0.out w2 q2 q3
      replace T2 := Lib.hid T2
      clear SPv T0 q2 q3 c1
      go_wp2_with fail
      go_ret
      exact .inl ⟨P.out, rfl, T2⟩
    have SPv : Hid (Calls Tryz.prog 243 #[.pointer (some ⟨b, 2, none⟩)] w fun e w' => e = .returned (.bool false) ∧ Blk w' b 143 (vals1 bt y.slots.length y) ∧ Chg [b] w w') := by
      refine SP.out.mono ?_
      rintro e w' ⟨q1, q2, q3⟩
      refine ⟨?_, q2.out, q3.out⟩
      rw [q1, show (y.trip == some 0) = false from by simpa using ht]
    clear SP
    obtain ⟨N, hN, hNv, hNs⟩ := vals1_count bt y.slots.length y hw ht hl
    obtain ⟨o, ho⟩ : ∃ o, o = 3 + what := ⟨_, rfl⟩
    rw [← ho] at hNv hNs ⊢
    have hN0 : (0 : Int) ≤ N := Int.natCast_nonneg _
    have hN1 : (N : Int) ≤ 1000000000 := by omega
    have e1 := Bay.start_none his hdk ht hd what
    rw [e1.1, e1.2]
    have T0 : Hid (∀ w1, Blk w1 b 143 (vals1 bt y.slots.length y) → Chg [b] w w1 → w1.cell? ⟨b, o, none⟩ = some (.int .i64 (N : Int)) ∧ w1.frozen? ⟨b, o, none⟩ = false ∧ Turns w F (BayT b (y.counted what)) (w1.setCell ⟨b, o, none⟩ (.int .i64 ((N : Int) + 1)))) := fun w1 B1 C1 => by
      refine ⟨B1.cell hNv, B1.free o, r.headTurns (y' := y.counted what) h'.lt (Bay.counted_fit h'.fit what) rfl (C1.setCell (.inl (by simp)) _) ?_⟩
      have := B1.set o (.int .i64 ((N : Int) + 1))
      rw [hNs] at this
      exact this
    replace D := Lib.hid D
    have P : Hid ((51 : Nat) ≠ 0) := by show (51 : Nat) ≠ 0; decide
    clear h h' hd hs his e1 hfn HF hl  r hx hin hp hdk hi hNv hNs ht hN
    replace ho := Lib.hid ho
    go_enter Tryz.func190, Tryz.ntmps190
    go_wp2_with fail
    refine D.out.mono ?_
    rintro e w1 ⟨rfl, hww⟩
    subst hww
    clear D
    go_wp2_with fail
    refine SPv.out.mono ?_
    rintro e w2 ⟨rfl, q2, q3⟩
    obtain ⟨d1, f1, T2⟩ := T0.out w2 q2 q3
    replace T2 := Lib.hid T2
    clear SPv T0 q2 q3 c1
    go_wp2_with fail
    go_ret
    exact .inl ⟨P.out, rfl, T2⟩
  · -- a disk is in it
    have c1 := r.blk.cell (j := 1) rfl
    cases hdk : y.dark with
    | true =>
      have e1 := Bay.start_dark his hdk what
      have f1 := r.blk.free 1
      have T0 : Hid (Turns w F (BayT b y) (w.setCell ⟨b, 1, none⟩ (.bool true))) := by
        refine r.headTurns (y' := y) h'.lt h'.fit rfl ((Chg.refl _ _).setCell (.inl (by simp)) _) ?_
        have B := r.blk.set 1 (.bool true)
        have e : (bayVals bt y.slots.length y).set 1 (.bool true) = bayVals bt y.slots.length y := by
          show [Value.slice (some ⟨bt, 0, none⟩) y.slots.length y.slots.length, .bool true] ++ _ ++ _ = [Value.slice (some ⟨bt, 0, none⟩) y.slots.length y.slots.length, .bool y.dark] ++ _ ++ _
          rw [hdk]
        rw [e] at B
        exact B
      rw [e1.1, e1.2]
      rw [hdk] at c1
      replace D := Lib.hid D
      have P : Hid ((50 : Nat) ≠ 0) := by show (50 : Nat) ≠ 0; decide
      clear h h' hd hs his e1 hfn HF hl  r hx hin hp hk hdk hi
      go_enter Tryz.func190, Tryz.ntmps190
      go_wp2_with fail
      refine D.out.mono ?_
      rintro e w1 ⟨rfl, hww⟩
      subst hww
      clear D
      go_wp2_with fail
      go_ret
      exact .inl ⟨P.out, rfl, T0⟩
    | false =>
    rw [hdk] at c1
    have SP := Lib.hid (spend_any b 2 _ _ y.trip w r.blk rfl rfl h'.fit.trip)
    by_cases ht : y.trip = some 0
    · have e1 := Bay.start_trip his hdk ht what
      have T0 : Hid (∀ w1, Blk w1 b 143 (vals1 bt y.slots.length y) → Chg [b] w w1 → w1.cell? ⟨b, 1, none⟩ = some (.bool false) ∧ w1.frozen? ⟨b, 1, none⟩ = false ∧ Turns w F (BayT b { y with dark := true, trip := none }) (w1.setCell ⟨b, 1, none⟩ (.bool true))) := fun w1 B1 C1 => by
        refine ⟨?_, B1.free 1, r.headTurns (y' := { y with dark := true, trip := none }) h'.lt (h'.fit.same rfl (fun n hn => by cases hn)) rfl (C1.setCell (.inl (by simp)) _) ?_⟩
        · have := B1.cell (j := 1) rfl
          rw [hdk] at this
          exact this
        · rw [← vals1_zero bt _ y ht]
          exact B1.set 1 _
      rw [e1.1, e1.2]
      rw [ht, show (some (0 : Nat) == some 0) = true from rfl] at SP
      have SPv : Hid (Calls Tryz.prog 243 #[.pointer (some ⟨b, 2, none⟩)] w fun e w' => e = .returned (.bool true) ∧ Blk w' b 143 (vals1 bt y.slots.length y) ∧ Chg [b] w w') := by
        refine SP.out.mono ?_
        rintro e w' ⟨q1, q2, q3⟩
        refine ⟨q1, ?_, q3.out⟩
        unfold vals1
        rw [ht]
        exact q2.out
      replace D := Lib.hid D
      have P : Hid ((50 : Nat) ≠ 0) := by show (50 : Nat) ≠ 0; decide
      clear SP h h' hd hs his e1 hfn HF hl  r hx hin hp hk hdk hi
      go_enter Tryz.func190, Tryz.ntmps190
      go_wp2_with fail
      refine D.out.mono ?_
      rintro e w1 ⟨rfl, hww⟩
      subst hww
      clear D
      go_wp2_with fail
      refine SPv.out.mono ?_
      rintro e w2 ⟨rfl, q2, q3⟩
      obtain ⟨d1, f1, T2⟩ := T0.out w2 q2 q3
      replace T2 := Lib.hid T2
      clear SPv T0 q2 q3 c1
      go_wp2_with fail
      go_ret
      exact .inl ⟨P.out, rfl, T2⟩
    have SPv : Hid (Calls Tryz.prog 243 #[.pointer (some ⟨b, 2, none⟩)] w fun e w' => e = .returned (.bool false) ∧ Blk w' b 143 (vals1 bt y.slots.length y) ∧ Chg [b] w w') := by
      refine SP.out.mono ?_
      rintro e w' ⟨q1, q2, q3⟩
      refine ⟨?_, q2.out, q3.out⟩
      rw [q1, show (y.trip == some 0) = false from by simpa using ht]
    clear SP
    obtain ⟨N, hN, hNv, hNs⟩ := vals1_count bt y.slots.length y hw ht hl
    obtain ⟨o, ho⟩ : ∃ o, o = 3 + what := ⟨_, rfl⟩
    rw [← ho] at hNv hNs ⊢
    have hN0 : (0 : Int) ≤ N := Int.natCast_nonneg _
    have hN1 : (N : Int) ≤ 1000000000 := by omega
    have e1 := Bay.start_some his hdk ht hd what
    obtain ⟨g, Fd, hFd, hkd, hb, hdsk⟩ := hk.rep
    have hf0 := (h'.fit.slot hx).devs d (.inl hin)
    have hkF : k ∈ F := r.inF.2.2 i 0 k (by rw [hFd]; exact List.mem_cons_self)
    have hkb : k ≠ b := (r.offb i 0 k (by rw [hFd]; exact List.mem_cons_self)).1
    have hx2 : (y.counted what).slots[i]? = some x := hx
    -- the bay, counted
    have T0 : Hid (∀ w1, Blk w1 b 143 (vals1 bt y.slots.length y) → Chg [b] w w1 → w1.cell? ⟨b, o, none⟩ = some (.int .i64 (N : Int)) ∧ w1.frozen? ⟨b, o, none⟩ = false ∧ Chg [b] w (w1.setCell ⟨b, o, none⟩ (.int .i64 ((N : Int) + 1))) ∧ BRep (w1.setCell ⟨b, o, none⟩ (.int .i64 ((N : Int) + 1))) b F (y.counted what) bt vs ps Fs) := fun w1 B1 C1 => by
      have C2 : Chg [b] w (w1.setCell ⟨b, o, none⟩ (.int .i64 ((N : Int) + 1))) := C1.setCell (.inl (by simp)) _
      refine ⟨B1.cell hNv, B1.free o, C2, r.head (y' := y.counted what) rfl C2 ?_⟩
      have := B1.set o (.int .i64 ((N : Int) + 1))
      rw [hNs] at this
      exact this
    have hbn : b ∉ k :: Fd := fun hm => (r.offb i 0 b (by rw [hFd]; exact hm)).1 rfl
    -- the drive's own block, and its disk, then
    have TD : Hid (∀ w2, Chg [b] w w2 → Blk w2 k 198 (.pointer (some ⟨g, 0, none⟩) :: alVals d.wear) ∧ (DiskT g d.disk Fd).P w2) := fun w2 C2 =>
      ⟨hb.chg C2 (by simpa using hkb), (DiskT g d.disk Fd).stays _ _ _ hdsk C2 (fun j hj hm => hbn (by rw [← List.mem_singleton.1 hm]; exact List.mem_cons_of_mem _ hj))⟩
    -- what is handed on
    have TH : Hid (∀ w2 wA G, Chg [b] w w2 → BRep w2 b F (y.counted what) bt vs ps Fs → DevIn wA k G d.step → (∀ j ∈ G, j ∈ k :: Fd ∨ w2.heap.size ≤ j) → Chg (k :: Fd) w2 wA → Handed w F b y i what k wA) := fun w2 wA G C2 r2 hD hG hC => by
      have hz := C2.size
      have hlt2 : ∀ j ∈ F, j < w2.heap.size := fun j hj => Nat.lt_of_lt_of_le (h'.lt j hj) hz
      obtain ⟨F1, ps', Fs', q1, q2, q3, q4, q5, q6, q7⟩ := r2.innRep hlt2 (Bay.counted_fit h'.fit what) hx2 hp d.step (Dev.step_fit hf0) G hD (fun j hj => by rw [hFd]; exact hG j hj) (by rw [hFd]; exact hC)
      refine ⟨i, F1, bt, vs, ps', Fs', rfl, q1, ?_, ?_, q4, ?_, ?_, fun j hj => ?_, ?_⟩
      · rw [e1.2.2]; exact q2
      · rw [e1.2.2]; exact q3
      · rw [e1.2.2]
        exact Bay.setIn_same (b := y.counted what) his
      · show i < ((y.counted what).turn i _).slots.length
        rw [Bay.turn_len]
        exact hi
      · rcases q6 j hj with q | q
        · exact .inl q
        · exact .inr (Nat.le_trans hz q)
      · exact (C2.mono (by intro j hj; rw [List.mem_singleton.1 hj]; exact r.inF.1)).trans q7
    have HFN : Hid (∀ wA, Handed w F b y i what k wA → wA.cell? ⟨k, 0, none⟩ = some (.pointer (some ⟨g, 0, none⟩)) → Calls Tryz.prog 225 #[.pointer (some ⟨g, 0, none⟩)] wA (fun e w' => ∃ n, e = .returned (.int .u16 n) ∧ R n w')) := fun wA hA hc => HF.out k g wA e1.1 hA hc
    rw [e1.1]
    replace D := Lib.hid D
    have stp := Lib.hid (Dev.step_eq d)
    have hwr := Lib.hid hf0.2
    replace hkd := Lib.hid hkd
    clear h h' hd hs his e1 hfn HF hl r hx hin hp hk hdk hi hNv hNs ht hN hb hdsk hf0 hkF hkb hx2 hbn hFd
    replace ho := Lib.hid ho
    unfold flushV
    by_cases hwe : d.wear = some 0
    · have e2 : Hid (d.step = ⟨d.disk.fail, none⟩) := by show _ = _; rw [stp.out, if_pos hwe]
      have SD : Hid (∀ w2, Chg [b] w w2 → Calls Tryz.prog 243 #[.pointer (some ⟨k, 1, none⟩)] w2 fun e w' => e = .returned (.bool true) ∧ Blk w' k 198 [.pointer (some ⟨g, 0, none⟩), .bool false, .int .i64 0] ∧ (DiskT g d.disk Fd).P w' ∧ Chg [k] w2 w') := fun w2 C2 => by
        obtain ⟨B, DK⟩ := TD.out w2 C2
        refine (spend_any k 1 _ _ d.wear w2 B rfl rfl hwr.out).mono ?_
        rintro e w' ⟨rfl, q2, q3⟩
        rw [hwe] at q2 ⊢
        exact ⟨rfl, q2.out, (DiskT g d.disk Fd).stays _ _ _ DK q3.out (fun j hj hm => hkd.out (by rw [← List.mem_singleton.1 hm]; exact hj)), q3.out⟩
      have TH2 : Hid (∀ w2 w3 w4, Chg [b] w w2 → BRep w2 b F (y.counted what) bt vs ps Fs → Blk w3 k 198 [.pointer (some ⟨g, 0, none⟩), .bool false, .int .i64 0] → Chg [k] w2 w3 → Turns w3 Fd (DiskT g d.disk.fail) w4 → Handed w F b y i what k w4) := fun w2 w3 w4 C2 r2 B3 C3 ⟨F2, t1, t2, t3⟩ => by
        have hz := C3.size
        refine TH.out w2 w4 (k :: F2) C2 r2 (by rw [e2.out]; exact ⟨g, F2, rfl, (fun hm => by
          rcases t2 k hm with q | q
          · exact hkd.out q
          · have := B3.lt; omega), B3.chg t3 hkd.out, t1⟩) (fun j hj => ?_) ((C3.mono (by simp)).trans (t3.mono (fun j hj => List.mem_cons_of_mem _ hj)))
        rcases List.mem_cons.1 hj with rfl | hj
        · exact .inl List.mem_cons_self
        · rcases t2 j hj with q | q
          · exact .inl (List.mem_cons_of_mem _ q)
          · exact .inr (Nat.le_trans hz q)
      clear TH TD stp hwr hwe e2
      generalize d.disk = dk at *
      go_enter Tryz.func190, Tryz.ntmps190
      go_wp2_with fail
      refine D.out.mono ?_
      rintro e w1 ⟨rfl, hww⟩
      subst hww
      clear D
      go_wp2_with fail
      refine SPv.out.mono ?_
      rintro e w2 ⟨rfl, q2, q3⟩
      obtain ⟨d1, f1, C2, r2⟩ := T0.out w2 q2 q3
      have S2 := Lib.hid (SD.out _ C2)
      replace C2 := Lib.hid C2
      replace r2 := Lib.hid r2
      clear SPv T0 q2 q3 c1 SD
      go_wp2_with fail
      refine S2.out.mono ?_
      rintro e w3 ⟨rfl, B3, DK3, C3⟩
      have c0 := B3.cell (j := 0) rfl
      have FL := Lib.hid (dfail_any g Fd dk w3 DK3)
      replace B3 := Lib.hid B3
      replace C3 := Lib.hid C3
      clear S2 DK3 d1 f1
      go_wp2_with fail
      refine FL.out.mono ?_
      rintro e w4 ⟨rfl, T4⟩
      have cA : w4.cell? ⟨k, 0, none⟩ = some (.pointer (some ⟨g, 0, none⟩)) := by
        obtain ⟨F2, t1, t2, t3⟩ := T4.out
        exact (t3.cell (p := ⟨k, 0, none⟩) B3.out.lt hkd.out).trans (B3.out.cell (j := 0) rfl)
      have CL := Lib.hid (HFN.out w4 (TH2.out _ w3 w4 C2.out r2.out B3.out C3.out T4.out) cA)
      have MM : ∀ n, (method (n + 1) 144 (.pointer (some ⟨k, 0, none⟩)) "Flush").run Tryz.prog w4 = .ok (225, .pointer (some ⟨g, 0, none⟩)) w4 := fun n => method_flush n k g w4 cA
      have EN := enters_dflush
      clear FL cA T4 TH2 HFN B3 C3 C2 r2 c0
      go_wp2_with fail
      refine CL.out.mono ?_
      rintro e w5 ⟨m, rfl, hR⟩
      replace hR := Lib.hid hR
      clear CL MM EN
      go_wp2_with fail
      go_ret
      exact .inr ⟨trivial, m, rfl, hR.out⟩
    · have e2 : Hid (d.step = ⟨d.disk, spent d.wear⟩) := by show _ = _; rw [stp.out, if_neg hwe]
      have SD : Hid (∀ w2, Chg [b] w w2 → Calls Tryz.prog 243 #[.pointer (some ⟨k, 1, none⟩)] w2 fun e w' => e = .returned (.bool false) ∧ Blk w' k 198 (.pointer (some ⟨g, 0, none⟩) :: alVals (spent d.wear)) ∧ (DiskT g d.disk Fd).P w' ∧ Chg [k] w2 w') := fun w2 C2 => by
        obtain ⟨B, DK⟩ := TD.out w2 C2
        refine (spend_any k 1 _ _ d.wear w2 B rfl rfl hwr.out).mono ?_
        rintro e w' ⟨rfl, q2, q3⟩
        refine ⟨by rw [show (d.wear == some 0) = false from by simpa using hwe], q2.out, (DiskT g d.disk Fd).stays _ _ _ DK q3.out (fun j hj hm => hkd.out (by rw [← List.mem_singleton.1 hm]; exact hj)), q3.out⟩
      have TH2 : Hid (∀ w2 w3, Chg [b] w w2 → BRep w2 b F (y.counted what) bt vs ps Fs → Blk w3 k 198 (.pointer (some ⟨g, 0, none⟩) :: alVals (spent d.wear)) → (DiskT g d.disk Fd).P w3 → Chg [k] w2 w3 → Handed w F b y i what k w3) := fun w2 w3 C2 r2 B3 DK3 C3 => by
        refine TH.out w2 w3 (k :: Fd) C2 r2 (by rw [e2.out]; exact ⟨g, Fd, rfl, hkd.out, B3, DK3⟩) (fun j hj => .inl hj) (C3.mono (by simp))
      clear TH TD stp hwr hwe e2 hkd
      generalize d.disk = dk at *
      generalize alVals (spent d.wear) = al at *
      go_enter Tryz.func190, Tryz.ntmps190
      go_wp2_with fail
      refine D.out.mono ?_
      rintro e w1 ⟨rfl, hww⟩
      subst hww
      clear D
      go_wp2_with fail
      refine SPv.out.mono ?_
      rintro e w2 ⟨rfl, q2, q3⟩
      obtain ⟨d1, f1, C2, r2⟩ := T0.out w2 q2 q3
      have S2 := Lib.hid (SD.out _ C2)
      replace C2 := Lib.hid C2
      replace r2 := Lib.hid r2
      clear SPv T0 q2 q3 c1 SD
      go_wp2_with fail
      refine S2.out.mono ?_
      rintro e w3 ⟨rfl, B3, DK3, C3⟩
      have cA : w3.cell? ⟨k, 0, none⟩ = some (.pointer (some ⟨g, 0, none⟩)) := B3.cell (j := 0) rfl
      have CL := Lib.hid (HFN.out w3 (TH2.out _ w3 C2.out r2.out B3 DK3 C3) cA)
      have MM : ∀ n, (method (n + 1) 144 (.pointer (some ⟨k, 0, none⟩)) "Flush").run Tryz.prog w3 = .ok (225, .pointer (some ⟨g, 0, none⟩)) w3 := fun n => method_flush n k g w3 cA
      have EN := enters_dflush
      clear cA
      clear TH2 HFN B3 C3 C2 r2 S2 DK3 d1 f1
      go_wp2_with fail
      refine CL.out.mono ?_
      rintro e w5 ⟨m, rfl, hR⟩
      replace hR := Lib.hid hR
      clear CL MM EN
      go_wp2_with fail
      go_ret
      exact .inr ⟨trivial, m, rfl, hR.out⟩

end Go.Proofs.YtaggfbgbmiifaaaGreat

/-
  The program's bay: a slot by itself: taken, insert, cut. By an AI agent.
-/
namespace Go.Proofs.YtaggfbgbmiifaaaGreat
open Go.RowKit Go.Maps

/-- Is there no room for another disk? -/
def Slot.full (x : Slot) : Bool := (match x.inn with | some d => !d.disk.bad | none => false) || x.coming.isSome

theorem ptrV_get {w : World} {bt : Nat} {vs : List Value} {i j : Nat} {p : Option Nat} (B : Blk w bt 146 vs) (h : vs[i * 3 + j]? = some (ptrV p)) : w.cell? ⟨bt, i * 3 + j, none⟩ = some (ptrV p) := B.cell h

set_option maxHeartbeats 1000000 in
set_option maxRecDepth 100000 in
theorem taken_any {w : World} {b : Nat} {F : List Nat} {y : Bay} {bt : Nat} {vs : List Value} {ps : Nat → Nat → Option Nat} {Fs : Nat → Nat → List Nat} (r : BRep w b F y bt vs ps Fs) {i : Nat} {x : Slot} (hx : y.slots[i]? = some x) :
    Calls Tryz.prog 150 #[.pointer (some ⟨bt, i * 3, none⟩)] w fun e w' => e = .returned (.bool x.full) ∧ ∃ q, w' = w.drewN q := by
  have hi := (List.getElem?_eq_some_iff.1 hx).1
  have c0 := r.tr.cell (r.ptr i 0 hi (by decide))
  have c2 := ptrV_get r.tr (r.ptr i 2 hi (by decide))
  have d0 := r.dev i 0
  have d2 := r.dev i 2
  rw [Bay.place_of hx] at d0 d2
  have c2x : Hid (∀ q, (w.drewN q).cell? ⟨bt, i * 3 + 2, none⟩ = some (ptrV (ps i 2))) := fun _ => c2
  have R : Hid (Calls Tryz.prog 208 #[.pointer (some ⟨bt, i * 3, none⟩)] w fun e w' => e = .returned (.bool (match x.inn with | some d => !d.disk.bad | none => false)) ∧ ∃ q, w' = w.drewN q) := by
    cases hin : x.inn with
    | none =>
      have h1 := (d0.isNone (show x.get 0 = none from hin)).1
      rw [h1] at c0
      exact running_none bt (i * 3) w c0
    | some d =>
      obtain ⟨k, hk, hk2⟩ := d0.isSome (show x.get 0 = some d from hin)
      rw [hk] at c0
      exact running_some bt (i * 3) k (Fs i 0) d w c0 hk2
  unfold Slot.full
  generalize (match x.inn with | some d => !d.disk.bad | none => false) = run at *
  cases hc : x.coming with
  | none =>
    have h1 := (d2.isNone (show x.get 2 = none from hc)).1
    rw [h1] at c2x
    replace c2x : Hid (∀ q, (w.drewN q).cell? ⟨bt, i * 3 + 2, none⟩ = some (.pointer none)) := c2x
    clear c0 c2 d0 d2 h1 hc hx r hi
    go_enter Tryz.func150, Tryz.ntmps150
    go_wp2_with fail
    refine R.out.mono ?_
    rintro e w1 ⟨rfl, q, hw⟩
    subst hw
    have c2 := c2x.out q
    clear R c2x
    cases run with
    | true =>
      go_wp2_with fail
      go_ret
      exact ⟨rfl, q, rfl⟩
    | false =>
      go_wp2_with fail
      go_ret
      exact ⟨rfl, q, rfl⟩
  | some c =>
    obtain ⟨k, h1, _⟩ := d2.isSome (show x.get 2 = some c from hc)
    rw [h1] at c2x
    replace c2x : Hid (∀ q, (w.drewN q).cell? ⟨bt, i * 3 + 2, none⟩ = some (.pointer (some ⟨k, 0, none⟩))) := c2x
    clear c0 c2 d0 d2 h1 hc hx r hi
    go_enter Tryz.func150, Tryz.ntmps150
    go_wp2_with fail
    refine R.out.mono ?_
    rintro e w1 ⟨rfl, q, hw⟩
    subst hw
    have c2 := c2x.out q
    clear R c2x
    cases run with
    | true =>
      go_wp2_with fail
      go_ret
      exact ⟨rfl, q, rfl⟩
    | false =>
      go_wp2_with fail
      go_ret
      exact ⟨rfl, q, rfl⟩

theorem triple {i a j c : Nat} (hj : j < 3) (hc : c < 3) (h : a ≠ i) : a * 3 + j ≠ i * 3 + c := by omega

/-- A new disk in a slot. -/
theorem BRep.lay {w w' : World} {b : Nat} {F : List Nat} {y : Bay} {bt : Nat} {vs : List Value} {ps : Nat → Nat → Option Nat} {Fs : Nat → Nat → List Nat} (hlt : ∀ k ∈ F, k < w.heap.size) (hf : y.Fit) (r : BRep w b F y bt vs ps Fs)
    {i k : Nat} {x : Slot} (hx : y.slots[i]? = some x) (e' : Dev) (he : e'.disk.Fit ∧ ∀ n, e'.wear = some n → n ≤ 9223372036854775807) (G : List Nat)
    (hd : DevIn w' k G e') (hg : ∀ j ∈ G, w.heap.size ≤ j) (hc : Chg [bt] w w') (hb : Blk w' bt 146 (vs.set (i * 3) (ptrV (some k)))) : Turns w F (BayT b (y.setIn i e')) w' := by
  have hs := hf.slot hx
  have hi : i < y.slots.length := (List.getElem?_eq_some_iff.1 hx).1
  have hln := r.len
  have e1 : y.setIn i e' = y.turn i (fun _ => { x with inn := some e' }) := Bay.turn_const (fun x => { x with inn := some e' }) hx
  rw [e1]
  refine r.slot hlt hf hx { x with inn := some e' } ⟨fun d hd => ?_, hs.clean⟩ (vs.set (i * 3) (ptrV (some k))) (fun j => if j = 0 then some k else ps i j) (fun j => if j = 0 then G else Fs i j) (hc.mono (by simp)) hb (by simp) (fun j hj => ?_) (fun a j ha hj => ?_) (fun j => ?_) (fun j q hq => ?_) (fun j j' hne q hq => ?_)
  · rcases hd with hd | hd | hd
    · obtain rfl : e' = d := by simpa using hd
      exact he
    · exact hs.devs d (.inr (.inl hd))
    · exact hs.devs d (.inr (.inr hd))
  · by_cases h0 : j = 0
    · subst h0
      rw [if_pos rfl, Nat.add_zero, List.getElem?_set_self (by omega)]
    · rw [if_neg h0, List.getElem?_set_ne (by omega)]
      exact r.ptr i j hi hj
  · rw [List.getElem?_set_ne (by have := triple (j := j) (c := 0) hj (by decide) ha; omega)]
  · by_cases h0 : j = 0
    · subst h0
      rw [if_pos rfl, if_pos rfl]
      exact PlaceIn.some hd
    · rw [if_neg h0, if_neg h0]
      have h1 := (r.dev i j).chg hc (fun q hq => by simpa using (r.offb i j q hq).2)
      rw [Bay.place_of hx] at h1
      match j, h0, h1 with
      | 0, h, _ => exact absurd rfl h
      | 1, _, h => exact h
      | 2, _, h => exact h
      | _ + 3, _, h => exact h
  · by_cases h0 : j = 0
    · rw [if_pos h0] at hq
      exact .inr (hg q hq)
    · rw [if_neg h0] at hq
      exact .inl ⟨j, hq⟩
  · have hnew : ∀ j, ∀ q ∈ G, q ∉ Fs i j := fun j q hq hm => by
      have h1 := hg q hq
      have := hlt q (r.inF.2.2 i j q hm)
      omega
    by_cases h0 : j = 0
    · rw [if_pos h0] at hq
      rw [if_neg (fun h => hne (h0.trans h.symm))]
      exact hnew j' q hq
    · rw [if_neg h0] at hq
      by_cases h1 : j' = 0
      · rw [if_pos h1]
        exact fun hm => hnew j q hm hq
      · rw [if_neg h1]
        exact r.off i j i j' (.inr hne) q hq

set_option maxHeartbeats 1000000 in
set_option maxRecDepth 100000 in
theorem insert_any {w : World} {b : Nat} {F : List Nat} {y : Bay} {bt : Nat} {vs : List Value} {ps : Nat → Nat → Option Nat} {Fs : Nat → Nat → List Nat} (hlt : ∀ k ∈ F, k < w.heap.size) (hf : y.Fit) (r : BRep w b F y bt vs ps Fs) {i : Nat} {x : Slot} (hx : y.slots[i]? = some x)
    (fn : Nat) (caps : Array Value) (ok : Prop) (d : Dk) (hen : ∀ (args : Array Value) (w : World), (callFunc fn args).run Tryz.prog w = .ok (.enter fn args) w)
    (hfn : ∀ w', Chg [] w w' → Calls Tryz.prog fn caps w' (DNewed w' ok d)) :
    Calls Tryz.prog 93 #[.pointer (some ⟨bt, i * 3, none⟩), .func (.func fn) #[] caps] w fun e w' => Hid (Chg [bt] w w') ∧ (
      (x.full = true ∧ e = .returned (.int .u16 52) ∧ Hid (Turns w F (BayT b y) w')) ∨ (x.full = false ∧ ¬ ok ∧ e = .returned (.int .u16 40) ∧ Hid (Turns w F (BayT b y) w')) ∨ (x.full = false ∧ ok ∧ e = .returned (.int .u16 0) ∧ Hid (Turns w F (BayT b (y.setIn i ⟨d, none⟩)) w'))) := by
  have TK := Lib.hid (taken_any r hx)
  have hi := (List.getElem?_eq_some_iff.1 hx).1
  have c0 : Hid (∀ q, w.cell? ⟨bt, i * 3, none⟩ = some (ptrV (ps i 0)) ∧ w.frozen? ⟨bt, i * 3, none⟩ = false ∧ (w.drewN q).heap.size = w.heap.size) := fun q => ⟨r.tr.cell (r.ptr i 0 hi (by decide)), r.tr.free _, rfl⟩
  have BT := Lib.hid r.tr
  have h0 : (BayT b y F).P w := ⟨hlt, hf, bt, vs, ps, Fs, r⟩
  have SAME : Hid (∀ w', Chg [] w w' → Turns w F (BayT b y) w') := fun w' c => ⟨F, (BayT b y F).stays _ _ [] h0 c (fun _ _ => by simp), fun k hk => .inl hk, c.mono (by simp)⟩
  have LAY : Hid (∀ (w2 : World) (g : Nat) (F2 : List Nat), Chg [] w w2 → (DiskT g d F2).P w2 → (∀ k ∈ F2, w.heap.size ≤ k) → Turns w F (BayT b (y.setIn i ⟨d, none⟩)) ((w2.setCell ⟨bt, i * 3, none⟩ (.pointer (some ⟨w2.heap.size, 0, none⟩))).alloc (.cells #[.pointer (some ⟨g, 0, none⟩), .bool false, .int .i64 0] 198))) := fun w2 g F2 c hd2 hn => by
    have hbt := r.tr.lt
    have hsz := c.size
    rw [← World.setCell_alloc_past _ bt (i * 3) _ (by omega)]
    have BD := Blk.made w2 [.pointer (some ⟨g, 0, none⟩), .bool false, .int .i64 0] 198
    have hd3 : DiskIn w2 g F2 d := hd2
    have C1 : Chg [bt] w2 ((w2.alloc (.cells #[.pointer (some ⟨g, 0, none⟩), .bool false, .int .i64 0] 198)).setCell ⟨bt, i * 3, none⟩ (.pointer (some ⟨w2.heap.size, 0, none⟩))) := ((Chg.refl _ _).alloc _).setCell (.inl (by simp)) _
    refine r.lay hlt hf hx (k := w2.heap.size) ⟨d, none⟩ ⟨hd3.fit, fun n h => by cases h⟩ (w2.heap.size :: F2) ⟨g, F2, rfl, fun hm => ?_, ?_, ?_⟩ (fun j hj => ?_) ((c.mono (by simp)).trans C1) ?_
    · have := hd3.lt _ hm
      omega
    · exact BD.other (fun e => by have : bt = w2.heap.size := e; omega) _
    · exact (DiskT g d F2).stays _ _ _ hd2 C1 (fun j hj hm => by
        have h1 := List.mem_singleton.1 hm
        have h2 := hn j hj
        omega)
    · rcases List.mem_cons.1 hj with rfl | hj
      · exact hsz
      · exact hn j hj
    · exact ((r.tr.chg c (by simp)).alloc _).set (i * 3) _
  have HF := Lib.hid hfn
  clear hlt hf r hx hi h0 hfn
  go_enter Tryz.func93, Tryz.ntmps93
  go_wp2_with fail
  refine TK.out.mono ?_
  rintro e w1 ⟨rfl, q, hw⟩
  subst hw
  have C1 : Hid (Chg [] w (w.drewN q)) := (Chg.refl [] w).drewN q
  clear TK
  cases hfl : x.full with
  | true =>
    have S1 := Lib.hid (SAME.out _ C1.out)
    clear SAME LAY HF hen
    go_wp2_with fail
    go_ret
    exact ⟨C1.out.mono (by simp), .inl ⟨hfl, rfl, S1⟩⟩
  | false =>
    have H1 := Lib.hid (HF.out _ C1.out)
    go_wp2_with fail
    refine H1.out.mono ?_
    rintro e w2 (⟨hno, rfl, C⟩ | ⟨hyes, g, F2, rfl, D, N, C⟩)
    · have S1 := Lib.hid (SAME.out _ (C1.out.trans C.out))
      have CB : Hid (Chg [bt] w w2) := (C1.out.trans C.out).mono (by simp)
      clear SAME LAY HF H1 hen
      go_wp2_with fail
      go_ret
      exact ⟨CB, .inr (.inl ⟨hfl, hno, rfl, S1⟩)⟩
    · have C2 : Hid (Chg [] w w2) := C1.out.trans C.out
      have S1 := Lib.hid (LAY.out w2 g F2 C2.out D.out (fun k hk => N.out k hk))
      have CB : Hid (Chg [bt] w ((w2.setCell ⟨bt, i * 3, none⟩ (.pointer (some ⟨w2.heap.size, 0, none⟩))).alloc (.cells #[.pointer (some ⟨g, 0, none⟩), .bool false, .int .i64 0] 198))) := ((C2.out.mono (by simp)).setCell (.inl (by simp)) _).alloc _
      have BT2 := (BT.out.chg C2.out (by simp)).alloc (.cells #[.pointer (some ⟨g, 0, none⟩), .bool false, .int .i64 0] 198)
      have c0 : w2.cell? ⟨bt, i * 3, none⟩ = some (ptrV (ps i 0)) := (C2.out.cell (p := ⟨bt, i * 3, none⟩) BT.out.lt (by simp)).trans (c0.out 0).1
      have f0 := (BT.out.chg C2.out (by simp)).free (i * 3)
      have hbt : bt < w2.heap.size := (BT.out.chg C2.out (by simp)).lt
      clear SAME LAY HF H1 hen BT BT2 D N C
      go_wp2_with fail
      go_ret
      exact ⟨CB, .inr (.inr ⟨hfl, hyes, rfl, S1⟩)⟩

end Go.Proofs.YtaggfbgbmiifaaaGreat
