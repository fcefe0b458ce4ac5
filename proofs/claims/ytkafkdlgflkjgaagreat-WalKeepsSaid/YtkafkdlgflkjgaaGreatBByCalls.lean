/-
  The program's bay: what only reads it; Fail, Wear, Trip. By an AI agent.
-/
import Derived.Test.YtkafkdlgflkjgaaGreatBByRep
import Derived.Test.YtkafkdlgflkjgaaGreatBG
import Derived.Test.YtkafkdlgflkjgaaGreatBGInMore
namespace Go.Proofs.YtkafkdlgflkjgaaGreat
open Go.RowKit Go.Maps

theorem Bay.out_of {y : Bay} {s : Int} (h : y.is s = false) : s < 0 ∨ (y.slots.length : Int) ≤ s := by
 have := of_decide_eq_false h
 omega

theorem info_counts : (Tryz.prog.info? 73).map (·.size) = some 3 := by kernel_rfl

/-- A slot's disk, as the program finds it. -/
theorem BayIn.cases {w : World} {b : Nat} {F : List Nat} {y : Bay} (h : BayIn w b F y) (s : Int) (hs : I64 s) :
 (y.is s = false ∧ y.dev s = none ∧ y.there s = 1 ∧ (∃ bt vs ps Fs, BRep w b F y bt vs ps Fs) ∧
  Calls Tryz.prog 119 #[.pointer (some ⟨b, 0, none⟩), .int .i64 s] w fun e w' => e = .returned (.tuple #[.pointer none, .int .u16 1]) ∧ w' = w) ∨
 (∃ (i : Nat) (x : Slot) (bt : Nat) (vs : List Value) (ps : Nat → Nat → Option Nat) (Fs : Nat → Nat → List Nat), s = i ∧ i < y.slots.length ∧ y.is s = true ∧ y.slots[i]? = some x ∧ x.inn = none ∧ y.dev s = none ∧ y.there s = 51 ∧ BRep w b F y bt vs ps Fs ∧ ps i 0 = none ∧
  Calls Tryz.prog 119 #[.pointer (some ⟨b, 0, none⟩), .int .i64 s] w fun e w' => e = .returned (.tuple #[.pointer none, .int .u16 51]) ∧ w' = w) ∨
 (∃ (i : Nat) (x : Slot) (bt : Nat) (vs : List Value) (ps : Nat → Nat → Option Nat) (Fs : Nat → Nat → List Nat) (k : Nat) (d : Dev), s = i ∧ i < y.slots.length ∧ y.is s = true ∧ y.slots[i]? = some x ∧ x.inn = some d ∧ y.dev s = some d ∧ y.there s = 0 ∧ BRep w b F y bt vs ps Fs ∧ ps i 0 = some k ∧ DevIn w k (Fs i 0) d ∧
  Calls Tryz.prog 119 #[.pointer (some ⟨b, 0, none⟩), .int .i64 s] w fun e w' => e = .returned (.tuple #[.pointer (some ⟨k, 0, none⟩), .int .u16 0]) ∧ w' = w) := by
 obtain ⟨bt, vs, ps, Fs, r⟩ := h.rep
 have c0 := r.blk.cell (j := 0) rfl
 cases his : y.is s with
 | false =>
   refine .inl ⟨rfl, ?_, ?_, ⟨bt, vs, ps, Fs, r⟩, drive_out b bt _ w c0 s hs (Bay.out_of his)⟩
   ·unfold Bay.dev
    rw [his]
    rfl
   ·unfold Bay.there
    rw [his]
    rfl
 | true =>
   obtain ⟨i, rfl, hi⟩ := Bay.is_some his
   have hx : y.slots[i]? = some y.slots[i] := List.getElem?_eq_getElem hi
   have hp := r.ptr i 0 hi (by decide)
   have cp := r.tr.cell hp
   have hD := drive_in b bt _ w c0 i hi (ps i 0) cp
   have hd := r.dev i 0
   rw [Bay.place_of hx] at hd
   have hdev : y.dev i = y.slots[i].inn := by
    rw [Bay.dev_place hi, Bay.place_of hx]
    rfl
   cases hin : y.slots[i].inn with
   | none =>
     have hn : y.dev i = none := by rw [hdev, hin]
     have hpn := (hd.isNone (show y.slots[i].get 0 = none from hin)).1
     rw [hpn] at hD
     refine .inr (.inl ⟨i, y.slots[i], bt, vs, ps, Fs, rfl, hi, rfl, hx, hin, hn, ?_, r, hpn, hD⟩)
     unfold Bay.there
     rw [his, hn]
     rfl
   | some d =>
     have hn : y.dev i = some d := by rw [hdev, hin]
     obtain ⟨k, hk, hk2⟩ := hd.isSome (show y.slots[i].get 0 = some d from hin)
     rw [hk] at hD
     exact .inr (.inr ⟨i, y.slots[i], bt, vs, ps, Fs, k, d, rfl, hi, rfl, hx, hin, hn, Bay.there_ok hn, r, hk, hk2, hD⟩)

section
variable (b : Nat) (F : List Nat) (y : Bay) (w : World) (h : (BayT b y F).P w)
include h

set_option maxHeartbeats 1000000 in
set_option maxRecDepth 100000 in
theorem bcounts_any : Calls Tryz.prog 28 #[.pointer (some ⟨b, 0, none⟩)] w fun e w' => e = .returned (.agg #[.int .i64 (y.reads : Int), .int .i64 (y.writes : Int), .int .i64 (y.flushes : Int)]) ∧ Hid (Chg [] w w') := by
 have h' : BayIn w b F y := h
 obtain ⟨bt, vs, ps, Fs, r⟩ := h'.rep
 have hlt := r.blk.lt
 have c4 := r.blk.cell (j := 4) rfl
 have c5 := r.blk.cell (j := 5) rfl
 have c6 := r.blk.cell (j := 6) rfl
 generalize (y.reads : Int) = n4 at *
 generalize (y.writes : Int) = n5 at *
 generalize (y.flushes : Int) = n6 at *
 clear h h' r
 go_enter Tryz.func28, Tryz.ntmps28
 go_wp2_with fail
 refine bodyPost_ret (results_cell_row rfl _ _ w.heap.size _ _ _ _ rfl (Blk.made w [.int .i64 n4, .int .i64 n5, .int .i64 n6] _) Tryz.underlying73 rfl info_counts) rfl ?_
 exact ⟨rfl, (Chg.refl _ w).alloc _⟩

set_option maxHeartbeats 1000000 in
set_option maxRecDepth 100000 in
theorem btrip_any (n : Int) (hn : I64 n) : Calls Tryz.prog 37 #[.pointer (some ⟨b, 0, none⟩), .int .i64 n] w fun e w' => e = .returned (.int .u16 (y.tripErr n : Nat)) ∧ Hid (Turns w F (BayT b (y.tripped n)) w') := by
 have h' : BayIn w b F y := h
 have T0 : Hid (Turns w F (BayT b y) w) := Turns.same h rfl
 obtain ⟨hn1, hn2⟩ := hn
 obtain ⟨bt, vs, ps, Fs, r⟩ := h'.rep
 by_cases hneg : n < 0
 ·have e1 : y.tripErr n = 1 := by unfold Bay.tripErr; rw [if_pos hneg]
  have e2 : y.tripped n = y := by unfold Bay.tripped; rw [if_neg (by rw [e1]; decide)]
  rw [e1, e2]
  clear h h' r e1 e2
  go_enter Tryz.func37, Tryz.ntmps37
  go_wp2_with fail
  go_ret
  exact ⟨rfl, T0⟩
 have hneg2 : ¬ n < 0 := hneg
 have c1 := r.blk.cell (j := 1) rfl
 cases hdk : y.dark with
 | true =>
   have e1 : y.tripErr n = 50 := by unfold Bay.tripErr; rw [if_neg hneg, if_pos hdk]
   have e2 : y.tripped n = y := by unfold Bay.tripped; rw [if_neg (by rw [e1]; decide)]
   rw [hdk] at c1
   rw [e1, e2]
   clear h h' r e1 e2
   go_enter Tryz.func37, Tryz.ntmps37
   go_wp2_with fail
   go_ret
   exact ⟨rfl, T0⟩
 | false =>
   have e1 : y.tripErr n = 0 := by unfold Bay.tripErr; rw [if_neg hneg, hdk]; rfl
   have e2 : y.tripped n = { y with trip := some n.toNat } := by unfold Bay.tripped; rw [if_pos e1]
   rw [hdk] at c1
   rw [e1, e2]
   have c2 := r.blk.cell (j := 2) rfl
   have c3 := r.blk.cell (j := 3) rfl
   have f2 := r.blk.free 2
   have f3 := r.blk.free 3
   have R : Hid (Turns w F (BayT b { y with trip := some n.toNat }) ((w.setCell ⟨b, 2, none⟩ (.bool true)).setCell ⟨b, 3, none⟩ (.int .i64 n))) := by
    refine r.headTurns (y' := { y with trip := some n.toNat }) h'.lt (h'.fit.same rfl (fun m hm => ?_)) rfl (((Chg.refl _ _).setCell (.inl (by simp)) _).setCell (.inl (by simp)) _) ?_
    ·have : n.toNat = m := by simpa using hm
     omega
    ·have B2 := (r.blk.set 2 (.bool true)).set 3 (.int .i64 n)
     show Blk _ b _ [.slice (some ⟨bt, 0, none⟩) y.slots.length y.slots.length, .bool y.dark, .bool true, .int .i64 ((n.toNat : Nat) : Int), .int .i64 (y.reads : Int), .int .i64 (y.writes : Int), .int .i64 (y.flushes : Int)]
     rw [show ((n.toNat : Nat) : Int) = n by omega]
     exact B2
   generalize (Value.bool y.trip.isSome) = z1 at *
   generalize (Value.int IntKind.i64 ((y.trip.getD 0 : Nat) : Int)) = z2 at *
   clear h h' r e1 e2 T0 hdk
   go_enter Tryz.func37, Tryz.ntmps37
   go_wp2_with fail
   go_ret
   exact ⟨rfl, R⟩


end
end Go.Proofs.YtkafkdlgflkjgaaGreat

/-
  The program's bay: one operation. By an AI agent.
-/
namespace Go.Proofs.YtkafkdlgflkjgaaGreat
open Go.RowKit Go.Maps

namespace Bay

theorem start_out {y : Bay} {s : Int} (h : y.is s = false) (what : Nat) : y.startErr s = 1 ∧ y.start s what = y := by
 unfold startErr start
 rw [if_pos h, if_pos h]
 exact ⟨rfl, rfl⟩

theorem start_dark {y : Bay} {s : Int} (h : y.is s = true) (hd : y.dark = true) (what : Nat) : y.startErr s = 50 ∧ y.start s what = y := by
 have h0 : ¬ y.is s = false := by rw [h]; simp
 unfold startErr start
 rw [if_neg h0, if_neg h0, if_pos hd, if_pos hd]
 exact ⟨rfl, rfl⟩

theorem start_trip {y : Bay} {s : Int} (h : y.is s = true) (hd : y.dark = false) (ht : y.trip = some 0) (what : Nat) : y.startErr s = 50 ∧ y.start s what = { y with dark := true, trip := none } := by
 have h0 : ¬ y.is s = false := by rw [h]; simp
 have h1 : ¬ y.dark = true := by rw [hd]; simp
 unfold startErr start
 rw [if_neg h0, if_neg h0, if_neg h1, if_neg h1, if_pos ht, if_pos ht]
 exact ⟨rfl, rfl⟩

theorem start_none {y : Bay} {s : Int} (h : y.is s = true) (hd : y.dark = false) (ht : ¬ y.trip = some 0) (hn : y.dev s = none) (what : Nat) : y.startErr s = 51 ∧ y.start s what = y.counted what := by
 have h0 : ¬ y.is s = false := by rw [h]; simp
 have h1 : ¬ y.dark = true := by rw [hd]; simp
 unfold startErr start
 rw [if_neg h0, if_neg h0, if_neg h1, if_neg h1, if_neg ht, if_neg ht, hn]
 exact ⟨rfl, rfl⟩

theorem start_some {y : Bay} {s : Int} {d : Dev} (h : y.is s = true) (hd : y.dark = false) (ht : ¬ y.trip = some 0) (hn : y.dev s = some d) (what : Nat) : y.startErr s = 0 ∧ y.start s what = (y.counted what).setIn s d.step ∧ y.asked s = d.step := by
 have h0 : ¬ y.is s = false := by rw [h]; simp
 have h1 : ¬ y.dark = true := by rw [hd]; simp
 unfold startErr start asked
 rw [if_neg h0, if_neg h0, if_neg h1, if_neg h1, if_neg ht, if_neg ht, hn]
 exact ⟨rfl, rfl, rfl⟩

end Bay

theorem spent_map {t : Option Nat} (h : ¬ t = some 0) : spent t = t.map (· - 1) := by
 match t, h with
 | none, _ => rfl
 | some 0, h => exact absurd rfl h
 | some (m + 1), _ => rfl

/-- A bay's cells behind 'spend'. -/
def vals1 (bt n : Nat) (y : Bay) : List Value := ((bayVals bt n y).set 2 (.bool (spent y.trip).isSome)).set 3 (.int .i64 (((spent y.trip).getD 0 : Nat) : Int))

theorem vals1_zero (bt n : Nat) (y : Bay) (h : y.trip = some 0) : (vals1 bt n y).set 1 (.bool true) = bayVals bt n { y with dark := true, trip := none } := by
 unfold vals1
 rw [h]
 rfl

theorem vals1_count (bt n : Nat) (y : Bay) {what : Nat} (hw : what = 1 ∨ what = 2 ∨ what = 3) (ht : ¬ y.trip = some 0) (hl : y.Low 1000000000) :
 ∃ N : Nat, N ≤ 1000000000 ∧ (vals1 bt n y)[3 + what]? = some (.int .i64 (N : Int)) ∧ (vals1 bt n y).set (3 + what) (.int .i64 ((N : Int) + 1)) = bayVals bt n (y.counted what) := by
 unfold vals1
 rw [spent_map ht]
 rcases hw with rfl | rfl | rfl
 ·exact ⟨y.reads, hl.reads, rfl, rfl⟩
 ·exact ⟨y.writes, hl.writes, rfl, rfl⟩
 ·exact ⟨y.flushes, hl.flushes, rfl, rfl⟩

theorem Dev.step_eq (d : Dev) : d.step = if d.wear = some 0 then ⟨d.disk.fail, none⟩ else ⟨d.disk, spent d.wear⟩ := by
 obtain ⟨k, wr⟩ := d
 match wr with
 | none => rfl
 | some 0 => rfl
 | some (m + 1) => rfl

theorem spent_le {t : Option Nat} (h : ∀ n, t = some n → n ≤ 9223372036854775807) : ∀ n, spent t = some n → n ≤ 9223372036854775807 := by
 intro n hn
 match t, hn with
 | none, hn => cases hn
 | some 0, hn => cases hn
 | some (m + 1), hn =>
   have := h (m + 1) rfl
   obtain rfl : m = n := by simpa [spent] using hn
   omega

theorem Dev.step_fit {d : Dev} (h : d.disk.Fit ∧ ∀ n, d.wear = some n → n ≤ 9223372036854775807) : d.step.disk.Fit ∧ ∀ n, d.step.wear = some n → n ≤ 9223372036854775807 := by
 rw [Dev.step_eq]
 split
 ·exact ⟨h.1.fail, fun n hn => by cases hn⟩
 ·exact ⟨h.1, spent_le h.2⟩

theorem Bay.counted_fit {y : Bay} (h : y.Fit) (what : Nat) : (y.counted what).Fit := by
 refine h.same rfl (fun n hn => ?_)
 have hn2 : y.trip.map (· - 1) = some n := hn
 cases ht : y.trip with
 | none => rw [ht] at hn2; cases hn2
 | some m =>
   rw [ht] at hn2
   have := h.trip m ht
   have : m - 1 = n := by simpa using hn2
   omega

/-- What the closure of an operation is handed: the bay as it stands then, the disk at block k. -/
structure Handed (w : World) (F : List Nat) (b : Nat) (y : Bay) (s : Int) (what : Nat) (k : Nat) (wA : World) : Prop where
 it : ∃ (i : Nat) (F1 : List Nat) (bt : Nat) (vs : List Value) (ps : Nat → Nat → Option Nat) (Fs : Nat → Nat → List Nat), s = i ∧ (∀ j ∈ F1, j < wA.heap.size) ∧ ((y.counted what).setIn s (y.asked s)).Fit ∧
  BRep wA b F1 ((y.counted what).setIn s (y.asked s)) bt vs ps Fs ∧ ps i 0 = some k ∧ ((y.counted what).setIn s (y.asked s)).dev s = some (y.asked s) ∧ i < ((y.counted what).setIn s (y.asked s)).slots.length ∧ (∀ j ∈ F1, j ∈ F ∨ w.heap.size ≤ j) ∧ Chg F w wA

set_option maxHeartbeats 4000000 in
set_option maxRecDepth 100000 in
theorem operate_any (b : Nat) (F : List Nat) (y : Bay) (w : World) (h : (BayT b y F).P w) (s : Int) (hs : I64 s) (what : Nat) (hw : what = 1 ∨ what = 2 ∨ what = 3) (hl : y.Low 1000000000) (fn : Nat) (caps : Array Value)
 (hen : ∀ (args : Array Value) (w : World), (callFunc fn args).run Tryz.prog w = .ok (.enter fn args) w) (R : Int → World → Prop)
 (hfn : ∀ (k : Nat) (wA : World), y.startErr s = 0 → Handed w F b y s what k wA → Calls Tryz.prog fn (#[.pointer (some ⟨k, 0, none⟩)] ++ caps) wA (fun e w' => ∃ n, e = .returned (.int .u16 n) ∧ R n w')) :
 Calls Tryz.prog 190 #[.pointer (some ⟨b, 0, none⟩), .int .i64 s, .pointer (some ⟨b, 3 + what, none⟩), .func (.func fn) #[] caps] w fun e w' =>
  (y.startErr s ≠ 0 ∧ e = .returned (.int .u16 (y.startErr s : Nat)) ∧ Hid (Turns w F (BayT b (y.start s what)) w')) ∨ (y.startErr s = 0 ∧ ∃ n, e = .returned (.int .u16 n) ∧ R n w') := by
 have h' : BayIn w b F y := h
 have HF := Lib.hid hfn
 rcases h'.cases s hs with ⟨his, hd, _, _, D⟩ | ⟨i, x, bt, vs, ps, Fs, rfl, hi, his, hx, hin, hd, _, r, hp, D⟩ | ⟨i, x, bt, vs, ps, Fs, k, d, rfl, hi, his, hx, hin, hd, _, r, hp, hk, D⟩
 ·-- no such slot
  have e1 := Bay.start_out his what
  have T0 : Hid (Turns w F (BayT b y) w) := Turns.same (T := BayT b y) h rfl
  rw [e1.1, e1.2]
  replace D := Lib.hid D
  have P : Hid ((1 : Nat) ≠ 0) := by show (1 : Nat) ≠ 0; decide
  clear h h' hd hs his e1 hfn HF hl hen
  go_enter Tryz.func190, Tryz.ntmps190
  go_wp2_with fail
  refine D.out.mono ?_
  rintro e w1 ⟨rfl, hww⟩
  subst hww
  clear D
  go_wp2_with fail
  go_ret
  exact .inl ⟨P.out, rfl, T0⟩
 ·-- no disk in it
  have c1 := r.blk.cell (j := 1) rfl
  cases hdk : y.dark with
  | true =>
    have e1 := Bay.start_dark his hdk what
    have f1 := r.blk.free 1
    have T0 : Hid (Turns w F (BayT b y) (w.setCell ⟨b, 1, none⟩ (.bool true))) := by
     refine r.headTurns (y' := y) h'.lt h'.fit rfl ((Chg.refl _ _).setCell (.inl (by simp)) _) ?_
     have B := r.blk.set 1 (.bool true)
     have e : (bayVals bt y.slots.length y).set 1 (.bool true) = bayVals bt y.slots.length y := by
      show [Value.slice (some ⟨bt, 0, none⟩) y.slots.length y.slots.length, .bool true] ++ _ ++ _ = [Value.slice (some ⟨bt, 0, none⟩) y.slots.length y.slots.length, .bool y.dark] ++ _ ++ _
      rw [hdk]
     rw [e] at B
     exact B
    rw [e1.1, e1.2]
    rw [hdk] at c1
    replace D := Lib.hid D
    have P : Hid ((50 : Nat) ≠ 0) := by show (50 : Nat) ≠ 0; decide
    clear h h' hd hs his e1 hfn HF hl hen r hx hin hp hdk hi
    go_enter Tryz.func190, Tryz.ntmps190
    go_wp2_with fail
    refine D.out.mono ?_
    rintro e w1 ⟨rfl, hww⟩
    subst hww
    clear D
    go_wp2_with fail
    go_ret
    exact .inl ⟨P.out, rfl, T0⟩
  | false =>
  rw [hdk] at c1
  have SP := Lib.hid (spend_any b 2 _ _ y.trip w r.blk rfl rfl h'.fit.trip)
  by_cases ht : y.trip = some 0
  ·have e1 := Bay.start_trip his hdk ht what
   have T0 : Hid (∀ w1, Blk w1 b 143 (vals1 bt y.slots.length y) → Chg [b] w w1 → w1.cell? ⟨b, 1, none⟩ = some (.bool false) ∧ w1.frozen? ⟨b, 1, none⟩ = false ∧ Turns w F (BayT b { y with dark := true, trip := none }) (w1.setCell ⟨b, 1, none⟩ (.bool true))) := fun w1 B1 C1 => by
    refine ⟨?_, B1.free 1, r.headTurns (y' := { y with dark := true, trip := none }) h'.lt (h'.fit.same rfl (fun n hn => by cases hn)) rfl (C1.setCell (.inl (by simp)) _) ?_⟩
    ·have := B1.cell (j := 1) rfl
     rw [hdk] at this
     exact this
    ·rw [← vals1_zero bt _ y ht]
     exact B1.set 1 _
   rw [e1.1, e1.2]
   rw [ht, show (some (0 : Nat) == some 0) = true from rfl] at SP
   have SPv : Hid (Calls Tryz.prog 243 #[.pointer (some ⟨b, 2, none⟩)] w fun e w' => e = .returned (.bool true) ∧ Blk w' b 143 (vals1 bt y.slots.length y) ∧ Chg [b] w w') := by
    refine SP.out.mono ?_
    rintro e w' ⟨q1, q2, q3⟩
    refine ⟨q1, ?_, q3.out⟩
    unfold vals1
    rw [ht]
    exact q2.out
   replace D := Lib.hid D
   have P : Hid ((50 : Nat) ≠ 0) := by show (50 : Nat) ≠ 0; decide
   clear SP h h' hd hs his e1 hfn HF hl hen r hx hin hp hdk hi
   go_enter Tryz.func190, Tryz.ntmps190
   go_wp2_with fail
   refine D.out.mono ?_
   rintro e w1 ⟨rfl, hww⟩
   subst hww
   clear D
   go_wp2_with fail
   refine SPv.out.mono ?_
   rintro e w2 ⟨rfl, q2, q3⟩
   obtain ⟨d1, f1, T2⟩ := T0.out w2 q2 q3
   replace T2 := Lib.hid T2
   clear SPv T0 q2 q3 c1
   go_wp2_with fail
   go_ret
   exact .inl ⟨P.out, rfl, T2⟩
  have SPv : Hid (Calls Tryz.prog 243 #[.pointer (some ⟨b, 2, none⟩)] w fun e w' => e = .returned (.bool false) ∧ Blk w' b 143 (vals1 bt y.slots.length y) ∧ Chg [b] w w') := by
   refine SP.out.mono ?_
   rintro e w' ⟨q1, q2, q3⟩
   refine ⟨?_, q2.out, q3.out⟩
   rw [q1, show (y.trip == some 0) = false from by simpa using ht]
  clear SP
  obtain ⟨N, hN, hNv, hNs⟩ := vals1_count bt y.slots.length y hw ht hl
  obtain ⟨o, ho⟩ : ∃ o, o = 3 + what := ⟨_, rfl⟩
  rw [← ho] at hNv hNs ⊢
  have hN0 : (0 : Int) ≤ N := Int.natCast_nonneg _
  have hN1 : (N : Int) ≤ 1000000000 := by omega
  have e1 := Bay.start_none his hdk ht hd what
  rw [e1.1, e1.2]
  have T0 : Hid (∀ w1, Blk w1 b 143 (vals1 bt y.slots.length y) → Chg [b] w w1 → w1.cell? ⟨b, o, none⟩ = some (.int .i64 (N : Int)) ∧ w1.frozen? ⟨b, o, none⟩ = false ∧ Turns w F (BayT b (y.counted what)) (w1.setCell ⟨b, o, none⟩ (.int .i64 ((N : Int) + 1)))) := fun w1 B1 C1 => by
   refine ⟨B1.cell hNv, B1.free o, r.headTurns (y' := y.counted what) h'.lt (Bay.counted_fit h'.fit what) rfl (C1.setCell (.inl (by simp)) _) ?_⟩
   have := B1.set o (.int .i64 ((N : Int) + 1))
   rw [hNs] at this
   exact this
  replace D := Lib.hid D
  have P : Hid ((51 : Nat) ≠ 0) := by show (51 : Nat) ≠ 0; decide
  clear h h' hd hs his e1 hfn HF hl hen r hx hin hp hdk hi hNv hNs ht hN
  replace ho := Lib.hid ho
  go_enter Tryz.func190, Tryz.ntmps190
  go_wp2_with fail
  refine D.out.mono ?_
  rintro e w1 ⟨rfl, hww⟩
  subst hww
  clear D
  go_wp2_with fail
  refine SPv.out.mono ?_
  rintro e w2 ⟨rfl, q2, q3⟩
  obtain ⟨d1, f1, T2⟩ := T0.out w2 q2 q3
  replace T2 := Lib.hid T2
  clear SPv T0 q2 q3 c1
  go_wp2_with fail
  go_ret
  exact .inl ⟨P.out, rfl, T2⟩
 ·-- a disk is in it
  have c1 := r.blk.cell (j := 1) rfl
  cases hdk : y.dark with
  | true =>
    have e1 := Bay.start_dark his hdk what
    have f1 := r.blk.free 1
    have T0 : Hid (Turns w F (BayT b y) (w.setCell ⟨b, 1, none⟩ (.bool true))) := by
     refine r.headTurns (y' := y) h'.lt h'.fit rfl ((Chg.refl _ _).setCell (.inl (by simp)) _) ?_
     have B := r.blk.set 1 (.bool true)
     have e : (bayVals bt y.slots.length y).set 1 (.bool true) = bayVals bt y.slots.length y := by
      show [Value.slice (some ⟨bt, 0, none⟩) y.slots.length y.slots.length, .bool true] ++ _ ++ _ = [Value.slice (some ⟨bt, 0, none⟩) y.slots.length y.slots.length, .bool y.dark] ++ _ ++ _
      rw [hdk]
     rw [e] at B
     exact B
    rw [e1.1, e1.2]
    rw [hdk] at c1
    replace D := Lib.hid D
    have P : Hid ((50 : Nat) ≠ 0) := by show (50 : Nat) ≠ 0; decide
    clear h h' hd hs his e1 hfn HF hl hen r hx hin hp hk hdk hi
    go_enter Tryz.func190, Tryz.ntmps190
    go_wp2_with fail
    refine D.out.mono ?_
    rintro e w1 ⟨rfl, hww⟩
    subst hww
    clear D
    go_wp2_with fail
    go_ret
    exact .inl ⟨P.out, rfl, T0⟩
  | false =>
  rw [hdk] at c1
  have SP := Lib.hid (spend_any b 2 _ _ y.trip w r.blk rfl rfl h'.fit.trip)
  by_cases ht : y.trip = some 0
  ·have e1 := Bay.start_trip his hdk ht what
   have T0 : Hid (∀ w1, Blk w1 b 143 (vals1 bt y.slots.length y) → Chg [b] w w1 → w1.cell? ⟨b, 1, none⟩ = some (.bool false) ∧ w1.frozen? ⟨b, 1, none⟩ = false ∧ Turns w F (BayT b { y with dark := true, trip := none }) (w1.setCell ⟨b, 1, none⟩ (.bool true))) := fun w1 B1 C1 => by
    refine ⟨?_, B1.free 1, r.headTurns (y' := { y with dark := true, trip := none }) h'.lt (h'.fit.same rfl (fun n hn => by cases hn)) rfl (C1.setCell (.inl (by simp)) _) ?_⟩
    ·have := B1.cell (j := 1) rfl
     rw [hdk] at this
     exact this
    ·rw [← vals1_zero bt _ y ht]
     exact B1.set 1 _
   rw [e1.1, e1.2]
   rw [ht, show (some (0 : Nat) == some 0) = true from rfl] at SP
   have SPv : Hid (Calls Tryz.prog 243 #[.pointer (some ⟨b, 2, none⟩)] w fun e w' => e = .returned (.bool true) ∧ Blk w' b 143 (vals1 bt y.slots.length y) ∧ Chg [b] w w') := by
    refine SP.out.mono ?_
    rintro e w' ⟨q1, q2, q3⟩
    refine ⟨q1, ?_, q3.out⟩
    unfold vals1
    rw [ht]
    exact q2.out
   replace D := Lib.hid D
   have P : Hid ((50 : Nat) ≠ 0) := by show (50 : Nat) ≠ 0; decide
   clear SP h h' hd hs his e1 hfn HF hl hen r hx hin hp hk hdk hi
   go_enter Tryz.func190, Tryz.ntmps190
   go_wp2_with fail
   refine D.out.mono ?_
   rintro e w1 ⟨rfl, hww⟩
   subst hww
   clear D
   go_wp2_with fail
   refine SPv.out.mono ?_
   rintro e w2 ⟨rfl, q2, q3⟩
   obtain ⟨d1, f1, T2⟩ := T0.out w2 q2 q3
   replace T2 := Lib.hid T2
   clear SPv T0 q2 q3 c1
   go_wp2_with fail
   go_ret
   exact .inl ⟨P.out, rfl, T2⟩
  have SPv : Hid (Calls Tryz.prog 243 #[.pointer (some ⟨b, 2, none⟩)] w fun e w' => e = .returned (.bool false) ∧ Blk w' b 143 (vals1 bt y.slots.length y) ∧ Chg [b] w w') := by
   refine SP.out.mono ?_
   rintro e w' ⟨q1, q2, q3⟩
   refine ⟨?_, q2.out, q3.out⟩
   rw [q1, show (y.trip == some 0) = false from by simpa using ht]
  clear SP
  obtain ⟨N, hN, hNv, hNs⟩ := vals1_count bt y.slots.length y hw ht hl
  obtain ⟨o, ho⟩ : ∃ o, o = 3 + what := ⟨_, rfl⟩
  rw [← ho] at hNv hNs ⊢
  have hN0 : (0 : Int) ≤ N := Int.natCast_nonneg _
  have hN1 : (N : Int) ≤ 1000000000 := by omega
  have e1 := Bay.start_some his hdk ht hd what
  obtain ⟨g, Fd, hFd, hkd, hb, hdsk⟩ := hk.rep
  have hf0 := (h'.fit.slot hx).devs d (.inl hin)
  have hkF : k ∈ F := r.inF.2.2 i 0 k (by rw [hFd]; exact List.mem_cons_self)
  have hkb : k ≠ b := (r.offb i 0 k (by rw [hFd]; exact List.mem_cons_self)).1
  have hx2 : (y.counted what).slots[i]? = some x := hx
  -- the bay, counted
  have T0 : Hid (∀ w1, Blk w1 b 143 (vals1 bt y.slots.length y) → Chg [b] w w1 → w1.cell? ⟨b, o, none⟩ = some (.int .i64 (N : Int)) ∧ w1.frozen? ⟨b, o, none⟩ = false ∧ Chg [b] w (w1.setCell ⟨b, o, none⟩ (.int .i64 ((N : Int) + 1))) ∧ BRep (w1.setCell ⟨b, o, none⟩ (.int .i64 ((N : Int) + 1))) b F (y.counted what) bt vs ps Fs) := fun w1 B1 C1 => by
   have C2 : Chg [b] w (w1.setCell ⟨b, o, none⟩ (.int .i64 ((N : Int) + 1))) := C1.setCell (.inl (by simp)) _
   refine ⟨B1.cell hNv, B1.free o, C2, r.head (y' := y.counted what) rfl C2 ?_⟩
   have := B1.set o (.int .i64 ((N : Int) + 1))
   rw [hNs] at this
   exact this
  have hbn : b ∉ k :: Fd := fun hm => (r.offb i 0 b (by rw [hFd]; exact hm)).1 rfl
  -- the drive's own block, and its disk, then
  have TD : Hid (∀ w2, Chg [b] w w2 → Blk w2 k 198 (.pointer (some ⟨g, 0, none⟩) :: alVals d.wear) ∧ (DiskT g d.disk Fd).P w2) := fun w2 C2 =>
   ⟨hb.chg C2 (by simpa using hkb), (DiskT g d.disk Fd).stays _ _ _ hdsk C2 (fun j hj hm => hbn (by rw [← List.mem_singleton.1 hm]; exact List.mem_cons_of_mem _ hj))⟩
  -- what is handed on
  have TH : Hid (∀ w2 wA G, Chg [b] w w2 → BRep w2 b F (y.counted what) bt vs ps Fs → DevIn wA k G d.step → (∀ j ∈ G, j ∈ k :: Fd ∨ w2.heap.size ≤ j) → Chg (k :: Fd) w2 wA → Handed w F b y i what k wA) := fun w2 wA G C2 r2 hD hG hC => by
   have hz := C2.size
   have hlt2 : ∀ j ∈ F, j < w2.heap.size := fun j hj => Nat.lt_of_lt_of_le (h'.lt j hj) hz
   obtain ⟨F1, ps', Fs', q1, q2, q3, q4, q5, q6, q7⟩ := r2.innRep hlt2 (Bay.counted_fit h'.fit what) hx2 hp d.step (Dev.step_fit hf0) G hD (fun j hj => by rw [hFd]; exact hG j hj) (by rw [hFd]; exact hC)
   refine ⟨i, F1, bt, vs, ps', Fs', rfl, q1, ?_, ?_, q4, ?_, ?_, fun j hj => ?_, ?_⟩
   ·rw [e1.2.2]; exact q2
   ·rw [e1.2.2]; exact q3
   ·rw [e1.2.2]
    exact Bay.setIn_same (b := y.counted what) his
   ·show i < ((y.counted what).turn i _).slots.length
    rw [Bay.turn_len]
    exact hi
   ·rcases q6 j hj with q | q
    ·exact .inl q
    ·exact .inr (Nat.le_trans hz q)
   ·exact (C2.mono (by intro j hj; rw [List.mem_singleton.1 hj]; exact r.inF.1)).trans q7
  have HFN : Hid (∀ wA, Handed w F b y i what k wA → Calls Tryz.prog fn (#[.pointer (some ⟨k, 0, none⟩)] ++ caps) wA (fun e w' => ∃ n, e = .returned (.int .u16 n) ∧ R n w')) := fun wA hA => HF.out k wA e1.1 hA
  rw [e1.1]
  replace D := Lib.hid D
  have stp := Lib.hid (Dev.step_eq d)
  have hwr := Lib.hid hf0.2
  replace hkd := Lib.hid hkd
  clear h h' hd hs his e1 hfn HF hl r hx hin hp hk hdk hi hNv hNs ht hN hb hdsk hf0 hkF hkb hx2 hbn hFd
  replace ho := Lib.hid ho
  by_cases hwe : d.wear = some 0
  ·have e2 : Hid (d.step = ⟨d.disk.fail, none⟩) := by show _ = _; rw [stp.out, if_pos hwe]
   have SD : Hid (∀ w2, Chg [b] w w2 → Calls Tryz.prog 243 #[.pointer (some ⟨k, 1, none⟩)] w2 fun e w' => e = .returned (.bool true) ∧ Blk w' k 198 [.pointer (some ⟨g, 0, none⟩), .bool false, .int .i64 0] ∧ (DiskT g d.disk Fd).P w' ∧ Chg [k] w2 w') := fun w2 C2 => by
    obtain ⟨B, DK⟩ := TD.out w2 C2
    refine (spend_any k 1 _ _ d.wear w2 B rfl rfl hwr.out).mono ?_
    rintro e w' ⟨rfl, q2, q3⟩
    rw [hwe] at q2 ⊢
    exact ⟨rfl, q2.out, (DiskT g d.disk Fd).stays _ _ _ DK q3.out (fun j hj hm => hkd.out (by rw [← List.mem_singleton.1 hm]; exact hj)), q3.out⟩
   have TH2 : Hid (∀ w2 w3 w4, Chg [b] w w2 → BRep w2 b F (y.counted what) bt vs ps Fs → Blk w3 k 198 [.pointer (some ⟨g, 0, none⟩), .bool false, .int .i64 0] → Chg [k] w2 w3 → Turns w3 Fd (DiskT g d.disk.fail) w4 → Handed w F b y i what k w4) := fun w2 w3 w4 C2 r2 B3 C3 ⟨F2, t1, t2, t3⟩ => by
    have hz := C3.size
    refine TH.out w2 w4 (k :: F2) C2 r2 (by rw [e2.out]; exact ⟨g, F2, rfl, (fun hm => by
     rcases t2 k hm with q | q
     ·exact hkd.out q
     ·have := B3.lt; omega), B3.chg t3 hkd.out, t1⟩) (fun j hj => ?_) ((C3.mono (by simp)).trans (t3.mono (fun j hj => List.mem_cons_of_mem _ hj)))
    rcases List.mem_cons.1 hj with rfl | hj
    ·exact .inl List.mem_cons_self
    ·rcases t2 j hj with q | q
     ·exact .inl (List.mem_cons_of_mem _ q)
     ·exact .inr (Nat.le_trans hz q)
   clear TH TD stp hwr hwe e2 hkd
   generalize d.disk = dk at *
   go_enter Tryz.func190, Tryz.ntmps190
   go_wp2_with fail
   refine D.out.mono ?_
   rintro e w1 ⟨rfl, hww⟩
   subst hww
   clear D
   go_wp2_with fail
   refine SPv.out.mono ?_
   rintro e w2 ⟨rfl, q2, q3⟩
   obtain ⟨d1, f1, C2, r2⟩ := T0.out w2 q2 q3
   have S2 := Lib.hid (SD.out _ C2)
   replace C2 := Lib.hid C2
   replace r2 := Lib.hid r2
   clear SPv T0 q2 q3 c1 SD
   go_wp2_with fail
   refine S2.out.mono ?_
   rintro e w3 ⟨rfl, B3, DK3, C3⟩
   have c0 := B3.cell (j := 0) rfl
   have FL := Lib.hid (dfail_any g Fd dk w3 DK3)
   replace B3 := Lib.hid B3
   replace C3 := Lib.hid C3
   clear S2 DK3 d1 f1
   go_wp2_with fail
   refine FL.out.mono ?_
   rintro e w4 ⟨rfl, T4⟩
   have CL := Lib.hid (HFN.out w4 (TH2.out _ w3 w4 C2.out r2.out B3.out C3.out T4.out))
   clear FL T4 TH2 HFN B3 C3 C2 r2 c0
   go_wp2_with fail
   refine CL.out.mono ?_
   rintro e w5 ⟨m, rfl, hR⟩
   replace hR := Lib.hid hR
   clear CL
   go_wp2_with fail
   go_ret
   exact .inr ⟨trivial, m, rfl, hR.out⟩
  ·have e2 : Hid (d.step = ⟨d.disk, spent d.wear⟩) := by show _ = _; rw [stp.out, if_neg hwe]
   have SD : Hid (∀ w2, Chg [b] w w2 → Calls Tryz.prog 243 #[.pointer (some ⟨k, 1, none⟩)] w2 fun e w' => e = .returned (.bool false) ∧ Blk w' k 198 (.pointer (some ⟨g, 0, none⟩) :: alVals (spent d.wear)) ∧ (DiskT g d.disk Fd).P w' ∧ Chg [k] w2 w') := fun w2 C2 => by
    obtain ⟨B, DK⟩ := TD.out w2 C2
    refine (spend_any k 1 _ _ d.wear w2 B rfl rfl hwr.out).mono ?_
    rintro e w' ⟨rfl, q2, q3⟩
    refine ⟨by rw [show (d.wear == some 0) = false from by simpa using hwe], q2.out, (DiskT g d.disk Fd).stays _ _ _ DK q3.out (fun j hj hm => hkd.out (by rw [← List.mem_singleton.1 hm]; exact hj)), q3.out⟩
   have TH2 : Hid (∀ w2 w3, Chg [b] w w2 → BRep w2 b F (y.counted what) bt vs ps Fs → Blk w3 k 198 (.pointer (some ⟨g, 0, none⟩) :: alVals (spent d.wear)) → (DiskT g d.disk Fd).P w3 → Chg [k] w2 w3 → Handed w F b y i what k w3) := fun w2 w3 C2 r2 B3 DK3 C3 => by
    refine TH.out w2 w3 (k :: Fd) C2 r2 (by rw [e2.out]; exact ⟨g, Fd, rfl, hkd.out, B3, DK3⟩) (fun j hj => .inl hj) (C3.mono (by simp))
   clear TH TD stp hwr hwe e2 hkd
   generalize d.disk = dk at *
   generalize alVals (spent d.wear) = al at *
   go_enter Tryz.func190, Tryz.ntmps190
   go_wp2_with fail
   refine D.out.mono ?_
   rintro e w1 ⟨rfl, hww⟩
   subst hww
   clear D
   go_wp2_with fail
   refine SPv.out.mono ?_
   rintro e w2 ⟨rfl, q2, q3⟩
   obtain ⟨d1, f1, C2, r2⟩ := T0.out w2 q2 q3
   have S2 := Lib.hid (SD.out _ C2)
   replace C2 := Lib.hid C2
   replace r2 := Lib.hid r2
   clear SPv T0 q2 q3 c1 SD
   go_wp2_with fail
   refine S2.out.mono ?_
   rintro e w3 ⟨rfl, B3, DK3, C3⟩
   have CL := Lib.hid (HFN.out w3 (TH2.out _ w3 C2.out r2.out B3 DK3 C3))
   clear TH2 HFN B3 C3 C2 r2 S2 DK3 d1 f1
   go_wp2_with fail
   refine CL.out.mono ?_
   rintro e w5 ⟨m, rfl, hR⟩
   replace hR := Lib.hid hR
   clear CL
   go_wp2_with fail
   go_ret
   exact .inr ⟨trivial, m, rfl, hR.out⟩

end Go.Proofs.YtkafkdlgflkjgaaGreat

/-
  The method expression (*drive).Flush: which function it is, and of which disk. By an AI agent.
-/
namespace Go.Proofs.YtkafkdlgflkjgaaGreat
open Go.RowKit Go.Maps

theorem drive_flush : ((Tryz.prog.info? 144).bind fun i => i.methods.find? (·.name == "Flush")).map (fun m => (m.path.toList.map (fun s => (s.struct, s.index, s.deref)), m.func)) = some ([(198, 0, true)], some (225, true)) := by kernel_rfl

theorem method_flush (n k g : Nat) (w : World) (hc : w.cell? ⟨k, 0, none⟩ = some (.pointer (some ⟨g, 0, none⟩))) :
 (method (n + 1) 144 (.pointer (some ⟨k, 0, none⟩)) "Flush").run Tryz.prog w = .ok (225, .pointer (some ⟨g, 0, none⟩)) w := by
 have h := drive_flush
 cases hi : Tryz.prog.info? 144 with
 | none => rw [hi] at h; simp at h
 | some i =>
   rw [hi] at h
   simp only [Option.bind_some] at h
   cases hm : i.methods.find? (·.name == "Flush") with
   | none => rw [hm] at h; simp at h
   | some m =>
     rw [hm] at h
     simp only [Option.map_some, Option.some.injEq, Prod.mk.injEq] at h
     obtain ⟨h1, h2⟩ := h
     obtain ⟨s, hp, hs⟩ : ∃ s : FieldStep, m.path.toList = [s] ∧ (s.struct, s.index, s.deref) = (198, 0, true) := by
      cases hl : m.path.toList with
      | nil => rw [hl] at h1; simp at h1
      | cons s r =>
        cases r with
        | nil => rw [hl] at h1; exact ⟨s, rfl, by simpa using h1⟩
        | cons a b => rw [hl] at h1; simp at h1
     obtain ⟨s1, s2, s3⟩ := s
     obtain ⟨rfl, rfl, rfl⟩ : s1 = 198 ∧ s2 = 0 ∧ s3 = true := by simpa using hs
     simp [method, typeInfo, go_sem, hi, hm, hp, h2, follow, receiverAt, Place.get, fieldPlace, hc]

end Go.Proofs.YtkafkdlgflkjgaaGreat

/-
  The program's bay: one operation, by a method expression. By an AI agent.
-/
namespace Go.Proofs.YtkafkdlgflkjgaaGreat
open Go.RowKit Go.Maps

theorem enters_dflush (args : Array Value) (w : World) : (callFunc 225 args).run Tryz.prog w = .ok (.enter 225 args) w := by
 have h1 : (Tryz.f225.name == "runtime.NumGoroutine") = false := by kernel_rfl
 have h2 : Tryz.f225.body.isNone = false := by kernel_rfl
 have h3 : ¬ Tryz.f225.name = "runtime.NumGoroutine" := by simpa using h1
 have h4 : ¬ Tryz.f225.body = none := fun e => by rw [e] at h2; cases h2
 simp [callFunc, go_sem, Tryz.func225, h3, h4]

/-- The method expression (*drive).Flush. -/
def flushV : Value := .func (.methodOf 144 "Flush") #[] #[]

set_option maxHeartbeats 4000000 in
set_option maxRecDepth 100000 in
theorem operateF_any (b : Nat) (F : List Nat) (y : Bay) (w : World) (h : (BayT b y F).P w) (s : Int) (hs : I64 s) (what : Nat) (hw : what = 1 ∨ what = 2 ∨ what = 3) (hl : y.Low 1000000000) (R : Int → World → Prop)
 (hfn : ∀ (k g : Nat) (wA : World), y.startErr s = 0 → Handed w F b y s what k wA → wA.cell? ⟨k, 0, none⟩ = some (.pointer (some ⟨g, 0, none⟩)) → Calls Tryz.prog 225 #[.pointer (some ⟨g, 0, none⟩)] wA (fun e w' => ∃ n, e = .returned (.int .u16 n) ∧ R n w')) :
 Calls Tryz.prog 190 #[.pointer (some ⟨b, 0, none⟩), .int .i64 s, .pointer (some ⟨b, 3 + what, none⟩), flushV] w fun e w' =>
  (y.startErr s ≠ 0 ∧ e = .returned (.int .u16 (y.startErr s : Nat)) ∧ Hid (Turns w F (BayT b (y.start s what)) w')) ∨ (y.startErr s = 0 ∧ ∃ n, e = .returned (.int .u16 n) ∧ R n w') := by
 have h' : BayIn w b F y := h
 have HF := Lib.hid hfn
 rcases h'.cases s hs with ⟨his, hd, _, _, D⟩ | ⟨i, x, bt, vs, ps, Fs, rfl, hi, his, hx, hin, hd, _, r, hp, D⟩ | ⟨i, x, bt, vs, ps, Fs, k, d, rfl, hi, his, hx, hin, hd, _, r, hp, hk, D⟩
 ·-- no such slot
  have e1 := Bay.start_out his what
  have T0 : Hid (Turns w F (BayT b y) w) := Turns.same (T := BayT b y) h rfl
  rw [e1.1, e1.2]
  replace D := Lib.hid D
  have P : Hid ((1 : Nat) ≠ 0) := by show (1 : Nat) ≠ 0; decide
  clear h h' hd hs his e1 hfn HF hl 
  go_enter Tryz.func190, Tryz.ntmps190
  go_wp2_with fail
  refine D.out.mono ?_
  rintro e w1 ⟨rfl, hww⟩
  subst hww
  clear D
  go_wp2_with fail
  go_ret
  exact .inl ⟨P.out, rfl, T0⟩
 ·-- no disk in it
  have c1 := r.blk.cell (j := 1) rfl
  cases hdk : y.dark with
  | true =>
    have e1 := Bay.start_dark his hdk what
    have f1 := r.blk.free 1
    have T0 : Hid (Turns w F (BayT b y) (w.setCell ⟨b, 1, none⟩ (.bool true))) := by
     refine r.headTurns (y' := y) h'.lt h'.fit rfl ((Chg.refl _ _).setCell (.inl (by simp)) _) ?_
     have B := r.blk.set 1 (.bool true)
     have e : (bayVals bt y.slots.length y).set 1 (.bool true) = bayVals bt y.slots.length y := by
      show [Value.slice (some ⟨bt, 0, none⟩) y.slots.length y.slots.length, .bool true] ++ _ ++ _ = [Value.slice (some ⟨bt, 0, none⟩) y.slots.length y.slots.length, .bool y.dark] ++ _ ++ _
      rw [hdk]
     rw [e] at B
     exact B
    rw [e1.1, e1.2]
    rw [hdk] at c1
    replace D := Lib.hid D
    have P : Hid ((50 : Nat) ≠ 0) := by show (50 : Nat) ≠ 0; decide
    clear h h' hd hs his e1 hfn HF hl  r hx hin hp hdk hi
    go_enter Tryz.func190, Tryz.ntmps190
    go_wp2_with fail
    refine D.out.mono ?_
    rintro e w1 ⟨rfl, hww⟩
    subst hww
    clear D
    go_wp2_with fail
    go_ret
    exact .inl ⟨P.out, rfl, T0⟩
  | false =>
  rw [hdk] at c1
  have SP := Lib.hid (spend_any b 2 _ _ y.trip w r.blk rfl rfl h'.fit.trip)
  by_cases ht : y.trip = some 0
  ·have e1 := Bay.start_trip his hdk ht what
   have T0 : Hid (∀ w1, Blk w1 b 143 (vals1 bt y.slots.length y) → Chg [b] w w1 → w1.cell? ⟨b, 1, none⟩ = some (.bool false) ∧ w1.frozen? ⟨b, 1, none⟩ = false ∧ Turns w F (BayT b { y with dark := true, trip := none }) (w1.setCell ⟨b, 1, none⟩ (.bool true))) := fun w1 B1 C1 => by
    refine ⟨?_, B1.free 1, r.headTurns (y' := { y with dark := true, trip := none }) h'.lt (h'.fit.same rfl (fun n hn => by cases hn)) rfl (C1.setCell (.inl (by simp)) _) ?_⟩
    ·have := B1.cell (j := 1) rfl
     rw [hdk] at this
     exact this
    ·rw [← vals1_zero bt _ y ht]
     exact B1.set 1 _
   rw [e1.1, e1.2]
   rw [ht, show (some (0 : Nat) == some 0) = true from rfl] at SP
   have SPv : Hid (Calls Tryz.prog 243 #[.pointer (some ⟨b, 2, none⟩)] w fun e w' => e = .returned (.bool true) ∧ Blk w' b 143 (vals1 bt y.slots.length y) ∧ Chg [b] w w') := by
    refine SP.out.mono ?_
    rintro e w' ⟨q1, q2, q3⟩
    refine ⟨q1, ?_, q3.out⟩
    unfold vals1
    rw [ht]
    exact q2.out
   replace D := Lib.hid D
   have P : Hid ((50 : Nat) ≠ 0) := by show (50 : Nat) ≠ 0; decide
   clear SP h h' hd hs his e1 hfn HF hl  r hx hin hp hdk hi
   go_enter Tryz.func190, Tryz.ntmps190
   go_wp2_with fail
   refine D.out.mono ?_
   rintro e w1 ⟨rfl, hww⟩
   subst hww
   clear D
   go_wp2_with fail
   refine SPv.out.mono ?_
   rintro e w2 ⟨rfl, q2, q3⟩
   obtain ⟨d1, f1, T2⟩ := T0.out w2 q2 q3
   replace T2 := Lib.hid T2
   clear SPv T0 q2 q3 c1
   go_wp2_with fail
   go_ret
   exact .inl ⟨P.out, rfl, T2⟩
  have SPv : Hid (Calls Tryz.prog 243 #[.pointer (some ⟨b, 2, none⟩)] w fun e w' => e = .returned (.bool false) ∧ Blk w' b 143 (vals1 bt y.slots.length y) ∧ Chg [b] w w') := by
   refine SP.out.mono ?_
   rintro e w' ⟨q1, q2, q3⟩
   refine ⟨?_, q2.out, q3.out⟩
   rw [q1, show (y.trip == some 0) = false from by simpa using ht]
  clear SP
  obtain ⟨N, hN, hNv, hNs⟩ := vals1_count bt y.slots.length y hw ht hl
  obtain ⟨o, ho⟩ : ∃ o, o = 3 + what := ⟨_, rfl⟩
  rw [← ho] at hNv hNs ⊢
  have hN0 : (0 : Int) ≤ N := Int.natCast_nonneg _
  have hN1 : (N : Int) ≤ 1000000000 := by omega
  have e1 := Bay.start_none his hdk ht hd what
  rw [e1.1, e1.2]
  have T0 : Hid (∀ w1, Blk w1 b 143 (vals1 bt y.slots.length y) → Chg [b] w w1 → w1.cell? ⟨b, o, none⟩ = some (.int .i64 (N : Int)) ∧ w1.frozen? ⟨b, o, none⟩ = false ∧ Turns w F (BayT b (y.counted what)) (w1.setCell ⟨b, o, none⟩ (.int .i64 ((N : Int) + 1)))) := fun w1 B1 C1 => by
   refine ⟨B1.cell hNv, B1.free o, r.headTurns (y' := y.counted what) h'.lt (Bay.counted_fit h'.fit what) rfl (C1.setCell (.inl (by simp)) _) ?_⟩
   have := B1.set o (.int .i64 ((N : Int) + 1))
   rw [hNs] at this
   exact this
  replace D := Lib.hid D
  have P : Hid ((51 : Nat) ≠ 0) := by show (51 : Nat) ≠ 0; decide
  clear h h' hd hs his e1 hfn HF hl  r hx hin hp hdk hi hNv hNs ht hN
  replace ho := Lib.hid ho
  go_enter Tryz.func190, Tryz.ntmps190
  go_wp2_with fail
  refine D.out.mono ?_
  rintro e w1 ⟨rfl, hww⟩
  subst hww
  clear D
  go_wp2_with fail
  refine SPv.out.mono ?_
  rintro e w2 ⟨rfl, q2, q3⟩
  obtain ⟨d1, f1, T2⟩ := T0.out w2 q2 q3
  replace T2 := Lib.hid T2
  clear SPv T0 q2 q3 c1
  go_wp2_with fail
  go_ret
  exact .inl ⟨P.out, rfl, T2⟩
 ·-- a disk is in it
  have c1 := r.blk.cell (j := 1) rfl
  cases hdk : y.dark with
  | true =>
    have e1 := Bay.start_dark his hdk what
    have f1 := r.blk.free 1
    have T0 : Hid (Turns w F (BayT b y) (w.setCell ⟨b, 1, none⟩ (.bool true))) := by
     refine r.headTurns (y' := y) h'.lt h'.fit rfl ((Chg.refl _ _).setCell (.inl (by simp)) _) ?_
     have B := r.blk.set 1 (.bool true)
     have e : (bayVals bt y.slots.length y).set 1 (.bool true) = bayVals bt y.slots.length y := by
      show [Value.slice (some ⟨bt, 0, none⟩) y.slots.length y.slots.length, .bool true] ++ _ ++ _ = [Value.slice (some ⟨bt, 0, none⟩) y.slots.length y.slots.length, .bool y.dark] ++ _ ++ _
      rw [hdk]
     rw [e] at B
     exact B
    rw [e1.1, e1.2]
    rw [hdk] at c1
    replace D := Lib.hid D
    have P : Hid ((50 : Nat) ≠ 0) := by show (50 : Nat) ≠ 0; decide
    clear h h' hd hs his e1 hfn HF hl  r hx hin hp hk hdk hi
    go_enter Tryz.func190, Tryz.ntmps190
    go_wp2_with fail
    refine D.out.mono ?_
    rintro e w1 ⟨rfl, hww⟩
    subst hww
    clear D
    go_wp2_with fail
    go_ret
    exact .inl ⟨P.out, rfl, T0⟩
  | false =>
  rw [hdk] at c1
  have SP := Lib.hid (spend_any b 2 _ _ y.trip w r.blk rfl rfl h'.fit.trip)
  by_cases ht : y.trip = some 0
  ·have e1 := Bay.start_trip his hdk ht what
   have T0 : Hid (∀ w1, Blk w1 b 143 (vals1 bt y.slots.length y) → Chg [b] w w1 → w1.cell? ⟨b, 1, none⟩ = some (.bool false) ∧ w1.frozen? ⟨b, 1, none⟩ = false ∧ Turns w F (BayT b { y with dark := true, trip := none }) (w1.setCell ⟨b, 1, none⟩ (.bool true))) := fun w1 B1 C1 => by
    refine ⟨?_, B1.free 1, r.headTurns (y' := { y with dark := true, trip := none }) h'.lt (h'.fit.same rfl (fun n hn => by cases hn)) rfl (C1.setCell (.inl (by simp)) _) ?_⟩
    ·have := B1.cell (j := 1) rfl
     rw [hdk] at this
     exact this
    ·rw [← vals1_zero bt _ y ht]
     exact B1.set 1 _
   rw [e1.1, e1.2]
   rw [ht, show (some (0 : Nat) == some 0) = true from rfl] at SP
   have SPv : Hid (Calls Tryz.prog 243 #[.pointer (some ⟨b, 2, none⟩)] w fun e w' => e = .returned (.bool true) ∧ Blk w' b 143 (vals1 bt y.slots.length y) ∧ Chg [b] w w') := by
    refine SP.out.mono ?_
    rintro e w' ⟨q1, q2, q3⟩
    refine ⟨q1, ?_, q3.out⟩
    unfold vals1
    rw [ht]
    exact q2.out
   replace D := Lib.hid D
   have P : Hid ((50 : Nat) ≠ 0) := by show (50 : Nat) ≠ 0; decide
   clear SP h h' hd hs his e1 hfn HF hl  r hx hin hp hk hdk hi
   go_enter Tryz.func190, Tryz.ntmps190
   go_wp2_with fail
   refine D.out.mono ?_
   rintro e w1 ⟨rfl, hww⟩
   subst hww
   clear D
   go_wp2_with fail
   refine SPv.out.mono ?_
   rintro e w2 ⟨rfl, q2, q3⟩
   obtain ⟨d1, f1, T2⟩ := T0.out w2 q2 q3
   replace T2 := Lib.hid T2
   clear SPv T0 q2 q3 c1
   go_wp2_with fail
   go_ret
   exact .inl ⟨P.out, rfl, T2⟩
  have SPv : Hid (Calls Tryz.prog 243 #[.pointer (some ⟨b, 2, none⟩)] w fun e w' => e = .returned (.bool false) ∧ Blk w' b 143 (vals1 bt y.slots.length y) ∧ Chg [b] w w') := by
   refine SP.out.mono ?_
   rintro e w' ⟨q1, q2, q3⟩
   refine ⟨?_, q2.out, q3.out⟩
   rw [q1, show (y.trip == some 0) = false from by simpa using ht]
  clear SP
  obtain ⟨N, hN, hNv, hNs⟩ := vals1_count bt y.slots.length y hw ht hl
  obtain ⟨o, ho⟩ : ∃ o, o = 3 + what := ⟨_, rfl⟩
  rw [← ho] at hNv hNs ⊢
  have hN0 : (0 : Int) ≤ N := Int.natCast_nonneg _
  have hN1 : (N : Int) ≤ 1000000000 := by omega
  have e1 := Bay.start_some his hdk ht hd what
  obtain ⟨g, Fd, hFd, hkd, hb, hdsk⟩ := hk.rep
  have hf0 := (h'.fit.slot hx).devs d (.inl hin)
  have hkF : k ∈ F := r.inF.2.2 i 0 k (by rw [hFd]; exact List.mem_cons_self)
  have hkb : k ≠ b := (r.offb i 0 k (by rw [hFd]; exact List.mem_cons_self)).1
  have hx2 : (y.counted what).slots[i]? = some x := hx
  -- the bay, counted
  have T0 : Hid (∀ w1, Blk w1 b 143 (vals1 bt y.slots.length y) → Chg [b] w w1 → w1.cell? ⟨b, o, none⟩ = some (.int .i64 (N : Int)) ∧ w1.frozen? ⟨b, o, none⟩ = false ∧ Chg [b] w (w1.setCell ⟨b, o, none⟩ (.int .i64 ((N : Int) + 1))) ∧ BRep (w1.setCell ⟨b, o, none⟩ (.int .i64 ((N : Int) + 1))) b F (y.counted what) bt vs ps Fs) := fun w1 B1 C1 => by
   have C2 : Chg [b] w (w1.setCell ⟨b, o, none⟩ (.int .i64 ((N : Int) + 1))) := C1.setCell (.inl (by simp)) _
   refine ⟨B1.cell hNv, B1.free o, C2, r.head (y' := y.counted what) rfl C2 ?_⟩
   have := B1.set o (.int .i64 ((N : Int) + 1))
   rw [hNs] at this
   exact this
  have hbn : b ∉ k :: Fd := fun hm => (r.offb i 0 b (by rw [hFd]; exact hm)).1 rfl
  -- the drive's own block, and its disk, then
  have TD : Hid (∀ w2, Chg [b] w w2 → Blk w2 k 198 (.pointer (some ⟨g, 0, none⟩) :: alVals d.wear) ∧ (DiskT g d.disk Fd).P w2) := fun w2 C2 =>
   ⟨hb.chg C2 (by simpa using hkb), (DiskT g d.disk Fd).stays _ _ _ hdsk C2 (fun j hj hm => hbn (by rw [← List.mem_singleton.1 hm]; exact List.mem_cons_of_mem _ hj))⟩
  -- what is handed on
  have TH : Hid (∀ w2 wA G, Chg [b] w w2 → BRep w2 b F (y.counted what) bt vs ps Fs → DevIn wA k G d.step → (∀ j ∈ G, j ∈ k :: Fd ∨ w2.heap.size ≤ j) → Chg (k :: Fd) w2 wA → Handed w F b y i what k wA) := fun w2 wA G C2 r2 hD hG hC => by
   have hz := C2.size
   have hlt2 : ∀ j ∈ F, j < w2.heap.size := fun j hj => Nat.lt_of_lt_of_le (h'.lt j hj) hz
   obtain ⟨F1, ps', Fs', q1, q2, q3, q4, q5, q6, q7⟩ := r2.innRep hlt2 (Bay.counted_fit h'.fit what) hx2 hp d.step (Dev.step_fit hf0) G hD (fun j hj => by rw [hFd]; exact hG j hj) (by rw [hFd]; exact hC)
   refine ⟨i, F1, bt, vs, ps', Fs', rfl, q1, ?_, ?_, q4, ?_, ?_, fun j hj => ?_, ?_⟩
   ·rw [e1.2.2]; exact q2
   ·rw [e1.2.2]; exact q3
   ·rw [e1.2.2]
    exact Bay.setIn_same (b := y.counted what) his
   ·show i < ((y.counted what).turn i _).slots.length
    rw [Bay.turn_len]
    exact hi
   ·rcases q6 j hj with q | q
    ·exact .inl q
    ·exact .inr (Nat.le_trans hz q)
   ·exact (C2.mono (by intro j hj; rw [List.mem_singleton.1 hj]; exact r.inF.1)).trans q7
  have HFN : Hid (∀ wA, Handed w F b y i what k wA → wA.cell? ⟨k, 0, none⟩ = some (.pointer (some ⟨g, 0, none⟩)) → Calls Tryz.prog 225 #[.pointer (some ⟨g, 0, none⟩)] wA (fun e w' => ∃ n, e = .returned (.int .u16 n) ∧ R n w')) := fun wA hA hc => HF.out k g wA e1.1 hA hc
  rw [e1.1]
  replace D := Lib.hid D
  have stp := Lib.hid (Dev.step_eq d)
  have hwr := Lib.hid hf0.2
  replace hkd := Lib.hid hkd
  clear h h' hd hs his e1 hfn HF hl r hx hin hp hk hdk hi hNv hNs ht hN hb hdsk hf0 hkF hkb hx2 hbn hFd
  replace ho := Lib.hid ho
  unfold flushV
  by_cases hwe : d.wear = some 0
  ·have e2 : Hid (d.step = ⟨d.disk.fail, none⟩) := by show _ = _; rw [stp.out, if_pos hwe]
   have SD : Hid (∀ w2, Chg [b] w w2 → Calls Tryz.prog 243 #[.pointer (some ⟨k, 1, none⟩)] w2 fun e w' => e = .returned (.bool true) ∧ Blk w' k 198 [.pointer (some ⟨g, 0, none⟩), .bool false, .int .i64 0] ∧ (DiskT g d.disk Fd).P w' ∧ Chg [k] w2 w') := fun w2 C2 => by
    obtain ⟨B, DK⟩ := TD.out w2 C2
    refine (spend_any k 1 _ _ d.wear w2 B rfl rfl hwr.out).mono ?_
    rintro e w' ⟨rfl, q2, q3⟩
    rw [hwe] at q2 ⊢
    exact ⟨rfl, q2.out, (DiskT g d.disk Fd).stays _ _ _ DK q3.out (fun j hj hm => hkd.out (by rw [← List.mem_singleton.1 hm]; exact hj)), q3.out⟩
   have TH2 : Hid (∀ w2 w3 w4, Chg [b] w w2 → BRep w2 b F (y.counted what) bt vs ps Fs → Blk w3 k 198 [.pointer (some ⟨g, 0, none⟩), .bool false, .int .i64 0] → Chg [k] w2 w3 → Turns w3 Fd (DiskT g d.disk.fail) w4 → Handed w F b y i what k w4) := fun w2 w3 w4 C2 r2 B3 C3 ⟨F2, t1, t2, t3⟩ => by
    have hz := C3.size
    refine TH.out w2 w4 (k :: F2) C2 r2 (by rw [e2.out]; exact ⟨g, F2, rfl, (fun hm => by
     rcases t2 k hm with q | q
     ·exact hkd.out q
     ·have := B3.lt; omega), B3.chg t3 hkd.out, t1⟩) (fun j hj => ?_) ((C3.mono (by simp)).trans (t3.mono (fun j hj => List.mem_cons_of_mem _ hj)))
    rcases List.mem_cons.1 hj with rfl | hj
    ·exact .inl List.mem_cons_self
    ·rcases t2 j hj with q | q
     ·exact .inl (List.mem_cons_of_mem _ q)
     ·exact .inr (Nat.le_trans hz q)
   clear TH TD stp hwr hwe e2
   generalize d.disk = dk at *
   go_enter Tryz.func190, Tryz.ntmps190
   go_wp2_with fail
   refine D.out.mono ?_
   rintro e w1 ⟨rfl, hww⟩
   subst hww
   clear D
   go_wp2_with fail
   refine SPv.out.mono ?_
   rintro e w2 ⟨rfl, q2, q3⟩
   obtain ⟨d1, f1, C2, r2⟩ := T0.out w2 q2 q3
   have S2 := Lib.hid (SD.out _ C2)
   replace C2 := Lib.hid C2
   replace r2 := Lib.hid r2
   clear SPv T0 q2 q3 c1 SD
   go_wp2_with fail
   refine S2.out.mono ?_
   rintro e w3 ⟨rfl, B3, DK3, C3⟩
   have c0 := B3.cell (j := 0) rfl
   have FL := Lib.hid (dfail_any g Fd dk w3 DK3)
   replace B3 := Lib.hid B3
   replace C3 := Lib.hid C3
   clear S2 DK3 d1 f1
   go_wp2_with fail
   refine FL.out.mono ?_
   rintro e w4 ⟨rfl, T4⟩
   have cA : w4.cell? ⟨k, 0, none⟩ = some (.pointer (some ⟨g, 0, none⟩)) := by
    obtain ⟨F2, t1, t2, t3⟩ := T4.out
    exact (t3.cell (p := ⟨k, 0, none⟩) B3.out.lt hkd.out).trans (B3.out.cell (j := 0) rfl)
   have CL := Lib.hid (HFN.out w4 (TH2.out _ w3 w4 C2.out r2.out B3.out C3.out T4.out) cA)
   have MM : ∀ n, (method (n + 1) 144 (.pointer (some ⟨k, 0, none⟩)) "Flush").run Tryz.prog w4 = .ok (225, .pointer (some ⟨g, 0, none⟩)) w4 := fun n => method_flush n k g w4 cA
   have EN := enters_dflush
   clear FL cA T4 TH2 HFN B3 C3 C2 r2 c0
   go_wp2_with fail
   refine CL.out.mono ?_
   rintro e w5 ⟨m, rfl, hR⟩
   replace hR := Lib.hid hR
   clear CL MM EN
   go_wp2_with fail
   go_ret
   exact .inr ⟨trivial, m, rfl, hR.out⟩
  ·have e2 : Hid (d.step = ⟨d.disk, spent d.wear⟩) := by show _ = _; rw [stp.out, if_neg hwe]
   have SD : Hid (∀ w2, Chg [b] w w2 → Calls Tryz.prog 243 #[.pointer (some ⟨k, 1, none⟩)] w2 fun e w' => e = .returned (.bool false) ∧ Blk w' k 198 (.pointer (some ⟨g, 0, none⟩) :: alVals (spent d.wear)) ∧ (DiskT g d.disk Fd).P w' ∧ Chg [k] w2 w') := fun w2 C2 => by
    obtain ⟨B, DK⟩ := TD.out w2 C2
    refine (spend_any k 1 _ _ d.wear w2 B rfl rfl hwr.out).mono ?_
    rintro e w' ⟨rfl, q2, q3⟩
    refine ⟨by rw [show (d.wear == some 0) = false from by simpa using hwe], q2.out, (DiskT g d.disk Fd).stays _ _ _ DK q3.out (fun j hj hm => hkd.out (by rw [← List.mem_singleton.1 hm]; exact hj)), q3.out⟩
   have TH2 : Hid (∀ w2 w3, Chg [b] w w2 → BRep w2 b F (y.counted what) bt vs ps Fs → Blk w3 k 198 (.pointer (some ⟨g, 0, none⟩) :: alVals (spent d.wear)) → (DiskT g d.disk Fd).P w3 → Chg [k] w2 w3 → Handed w F b y i what k w3) := fun w2 w3 C2 r2 B3 DK3 C3 => by
    refine TH.out w2 w3 (k :: Fd) C2 r2 (by rw [e2.out]; exact ⟨g, Fd, rfl, hkd.out, B3, DK3⟩) (fun j hj => .inl hj) (C3.mono (by simp))
   clear TH TD stp hwr hwe e2 hkd
   generalize d.disk = dk at *
   generalize alVals (spent d.wear) = al at *
   go_enter Tryz.func190, Tryz.ntmps190
   go_wp2_with fail
   refine D.out.mono ?_
   rintro e w1 ⟨rfl, hww⟩
   subst hww
   clear D
   go_wp2_with fail
   refine SPv.out.mono ?_
   rintro e w2 ⟨rfl, q2, q3⟩
   obtain ⟨d1, f1, C2, r2⟩ := T0.out w2 q2 q3
   have S2 := Lib.hid (SD.out _ C2)
   replace C2 := Lib.hid C2
   replace r2 := Lib.hid r2
   clear SPv T0 q2 q3 c1 SD
   go_wp2_with fail
   refine S2.out.mono ?_
   rintro e w3 ⟨rfl, B3, DK3, C3⟩
   have cA : w3.cell? ⟨k, 0, none⟩ = some (.pointer (some ⟨g, 0, none⟩)) := B3.cell (j := 0) rfl
   have CL := Lib.hid (HFN.out w3 (TH2.out _ w3 C2.out r2.out B3 DK3 C3) cA)
   have MM : ∀ n, (method (n + 1) 144 (.pointer (some ⟨k, 0, none⟩)) "Flush").run Tryz.prog w3 = .ok (225, .pointer (some ⟨g, 0, none⟩)) w3 := fun n => method_flush n k g w3 cA
   have EN := enters_dflush
   clear cA
   clear TH2 HFN B3 C3 C2 r2 S2 DK3 d1 f1
   go_wp2_with fail
   refine CL.out.mono ?_
   rintro e w5 ⟨m, rfl, hR⟩
   replace hR := Lib.hid hR
   clear CL MM EN
   go_wp2_with fail
   go_ret
   exact .inr ⟨trivial, m, rfl, hR.out⟩

end Go.Proofs.YtkafkdlgflkjgaaGreat

/-
  The program's bay: a slot by itself: taken, insert, cut. By an AI agent.
-/
namespace Go.Proofs.YtkafkdlgflkjgaaGreat
open Go.RowKit Go.Maps

/-- Is there no room for another disk? -/
def Slot.full (x : Slot) : Bool := (match x.inn with | some d => !d.disk.bad | none => false) || x.coming.isSome

theorem ptrV_get {w : World} {bt : Nat} {vs : List Value} {i j : Nat} {p : Option Nat} (B : Blk w bt 146 vs) (h : vs[i * 3 + j]? = some (ptrV p)) : w.cell? ⟨bt, i * 3 + j, none⟩ = some (ptrV p) := B.cell h

set_option maxHeartbeats 1000000 in
set_option maxRecDepth 100000 in
theorem taken_any {w : World} {b : Nat} {F : List Nat} {y : Bay} {bt : Nat} {vs : List Value} {ps : Nat → Nat → Option Nat} {Fs : Nat → Nat → List Nat} (r : BRep w b F y bt vs ps Fs) {i : Nat} {x : Slot} (hx : y.slots[i]? = some x) :
 Calls Tryz.prog 150 #[.pointer (some ⟨bt, i * 3, none⟩)] w fun e w' => e = .returned (.bool x.full) ∧ ∃ q, w' = w.drewN q := by
 have hi := (List.getElem?_eq_some_iff.1 hx).1
 have c0 := r.tr.cell (r.ptr i 0 hi (by decide))
 have c2 := ptrV_get r.tr (r.ptr i 2 hi (by decide))
 have d0 := r.dev i 0
 have d2 := r.dev i 2
 rw [Bay.place_of hx] at d0 d2
 have c2x : Hid (∀ q, (w.drewN q).cell? ⟨bt, i * 3 + 2, none⟩ = some (ptrV (ps i 2))) := fun _ => c2
 have R : Hid (Calls Tryz.prog 208 #[.pointer (some ⟨bt, i * 3, none⟩)] w fun e w' => e = .returned (.bool (match x.inn with | some d => !d.disk.bad | none => false)) ∧ ∃ q, w' = w.drewN q) := by
  cases hin : x.inn with
  | none =>
    have h1 := (d0.isNone (show x.get 0 = none from hin)).1
    rw [h1] at c0
    exact running_none bt (i * 3) w c0
  | some d =>
    obtain ⟨k, hk, hk2⟩ := d0.isSome (show x.get 0 = some d from hin)
    rw [hk] at c0
    exact running_some bt (i * 3) k (Fs i 0) d w c0 hk2
 unfold Slot.full
 generalize (match x.inn with | some d => !d.disk.bad | none => false) = run at *
 cases hc : x.coming with
 | none =>
   have h1 := (d2.isNone (show x.get 2 = none from hc)).1
   rw [h1] at c2x
   replace c2x : Hid (∀ q, (w.drewN q).cell? ⟨bt, i * 3 + 2, none⟩ = some (.pointer none)) := c2x
   clear c0 c2 d0 d2 h1 hc hx r hi
   go_enter Tryz.func150, Tryz.ntmps150
   go_wp2_with fail
   refine R.out.mono ?_
   rintro e w1 ⟨rfl, q, hw⟩
   subst hw
   have c2 := c2x.out q
   clear R c2x
   cases run with
   | true =>
     go_wp2_with fail
     go_ret
     exact ⟨rfl, q, rfl⟩
   | false =>
     go_wp2_with fail
     go_ret
     exact ⟨rfl, q, rfl⟩
 | some c =>
   obtain ⟨k, h1, _⟩ := d2.isSome (show x.get 2 = some c from hc)
   rw [h1] at c2x
   replace c2x : Hid (∀ q, (w.drewN q).cell? ⟨bt, i * 3 + 2, none⟩ = some (.pointer (some ⟨k, 0, none⟩))) := c2x
   clear c0 c2 d0 d2 h1 hc hx r hi
   go_enter Tryz.func150, Tryz.ntmps150
   go_wp2_with fail
   refine R.out.mono ?_
   rintro e w1 ⟨rfl, q, hw⟩
   subst hw
   have c2 := c2x.out q
   clear R c2x
   cases run with
   | true =>
     go_wp2_with fail
     go_ret
     exact ⟨rfl, q, rfl⟩
   | false =>
     go_wp2_with fail
     go_ret
     exact ⟨rfl, q, rfl⟩

theorem triple {i a j c : Nat} (hj : j < 3) (hc : c < 3) (h : a ≠ i) : a * 3 + j ≠ i * 3 + c := by omega

/-- A new disk in a slot. -/
theorem BRep.lay {w w' : World} {b : Nat} {F : List Nat} {y : Bay} {bt : Nat} {vs : List Value} {ps : Nat → Nat → Option Nat} {Fs : Nat → Nat → List Nat} (hlt : ∀ k ∈ F, k < w.heap.size) (hf : y.Fit) (r : BRep w b F y bt vs ps Fs)
 {i k : Nat} {x : Slot} (hx : y.slots[i]? = some x) (e' : Dev) (he : e'.disk.Fit ∧ ∀ n, e'.wear = some n → n ≤ 9223372036854775807) (G : List Nat)
 (hd : DevIn w' k G e') (hg : ∀ j ∈ G, w.heap.size ≤ j) (hc : Chg [bt] w w') (hb : Blk w' bt 146 (vs.set (i * 3) (ptrV (some k)))) : Turns w F (BayT b (y.setIn i e')) w' := by
 have hs := hf.slot hx
 have hi : i < y.slots.length := (List.getElem?_eq_some_iff.1 hx).1
 have hln := r.len
 have e1 : y.setIn i e' = y.turn i (fun _ => { x with inn := some e' }) := Bay.turn_const (fun x => { x with inn := some e' }) hx
 rw [e1]
 refine r.slot hlt hf hx { x with inn := some e' } ⟨fun d hd => ?_, hs.clean⟩ (vs.set (i * 3) (ptrV (some k))) (fun j => if j = 0 then some k else ps i j) (fun j => if j = 0 then G else Fs i j) (hc.mono (by simp)) hb (by simp) (fun j hj => ?_) (fun a j ha hj => ?_) (fun j => ?_) (fun j q hq => ?_) (fun j j' hne q hq => ?_)
 ·rcases hd with hd | hd | hd
  ·obtain rfl : e' = d := by simpa using hd
   exact he
  ·exact hs.devs d (.inr (.inl hd))
  ·exact hs.devs d (.inr (.inr hd))
 ·by_cases h0 : j = 0
  ·subst h0
   rw [if_pos rfl, Nat.add_zero, List.getElem?_set_self (by omega)]
  ·rw [if_neg h0, List.getElem?_set_ne (by omega)]
   exact r.ptr i j hi hj
 ·rw [List.getElem?_set_ne (by have := triple (j := j) (c := 0) hj (by decide) ha; omega)]
 ·by_cases h0 : j = 0
  ·subst h0
   rw [if_pos rfl, if_pos rfl]
   exact PlaceIn.some hd
  ·rw [if_neg h0, if_neg h0]
   have h1 := (r.dev i j).chg hc (fun q hq => by simpa using (r.offb i j q hq).2)
   rw [Bay.place_of hx] at h1
   match j, h0, h1 with
   | 0, h, _ => exact absurd rfl h
   | 1, _, h => exact h
   | 2, _, h => exact h
   | _ + 3, _, h => exact h
 ·by_cases h0 : j = 0
  ·rw [if_pos h0] at hq
   exact .inr (hg q hq)
  ·rw [if_neg h0] at hq
   exact .inl ⟨j, hq⟩
 ·have hnew : ∀ j, ∀ q ∈ G, q ∉ Fs i j := fun j q hq hm => by
   have h1 := hg q hq
   have := hlt q (r.inF.2.2 i j q hm)
   omega
  by_cases h0 : j = 0
  ·rw [if_pos h0] at hq
   rw [if_neg (fun h => hne (h0.trans h.symm))]
   exact hnew j' q hq
  ·rw [if_neg h0] at hq
   by_cases h1 : j' = 0
   ·rw [if_pos h1]
    exact fun hm => hnew j q hm hq
   ·rw [if_neg h1]
    exact r.off i j i j' (.inr hne) q hq

set_option maxHeartbeats 1000000 in
set_option maxRecDepth 100000 in
theorem insert_any {w : World} {b : Nat} {F : List Nat} {y : Bay} {bt : Nat} {vs : List Value} {ps : Nat → Nat → Option Nat} {Fs : Nat → Nat → List Nat} (hlt : ∀ k ∈ F, k < w.heap.size) (hf : y.Fit) (r : BRep w b F y bt vs ps Fs) {i : Nat} {x : Slot} (hx : y.slots[i]? = some x)
 (fn : Nat) (caps : Array Value) (ok : Prop) (d : Dk) (hen : ∀ (args : Array Value) (w : World), (callFunc fn args).run Tryz.prog w = .ok (.enter fn args) w)
 (hfn : ∀ w', Chg [] w w' → Calls Tryz.prog fn caps w' (DNewed w' ok d)) :
 Calls Tryz.prog 93 #[.pointer (some ⟨bt, i * 3, none⟩), .func (.func fn) #[] caps] w fun e w' => Hid (Chg [bt] w w') ∧ (
  (x.full = true ∧ e = .returned (.int .u16 52) ∧ Hid (Turns w F (BayT b y) w')) ∨ (x.full = false ∧ ¬ ok ∧ e = .returned (.int .u16 40) ∧ Hid (Turns w F (BayT b y) w')) ∨ (x.full = false ∧ ok ∧ e = .returned (.int .u16 0) ∧ Hid (Turns w F (BayT b (y.setIn i ⟨d, none⟩)) w'))) := by
 have TK := Lib.hid (taken_any r hx)
 have hi := (List.getElem?_eq_some_iff.1 hx).1
 have c0 : Hid (∀ q, w.cell? ⟨bt, i * 3, none⟩ = some (ptrV (ps i 0)) ∧ w.frozen? ⟨bt, i * 3, none⟩ = false ∧ (w.drewN q).heap.size = w.heap.size) := fun q => ⟨r.tr.cell (r.ptr i 0 hi (by decide)), r.tr.free _, rfl⟩
 have BT := Lib.hid r.tr
 have h0 : (BayT b y F).P w := ⟨hlt, hf, bt, vs, ps, Fs, r⟩
 have SAME : Hid (∀ w', Chg [] w w' → Turns w F (BayT b y) w') := fun w' c => ⟨F, (BayT b y F).stays _ _ [] h0 c (fun _ _ => by simp), fun k hk => .inl hk, c.mono (by simp)⟩
 have LAY : Hid (∀ (w2 : World) (g : Nat) (F2 : List Nat), Chg [] w w2 → (DiskT g d F2).P w2 → (∀ k ∈ F2, w.heap.size ≤ k) → Turns w F (BayT b (y.setIn i ⟨d, none⟩)) ((w2.setCell ⟨bt, i * 3, none⟩ (.pointer (some ⟨w2.heap.size, 0, none⟩))).alloc (.cells #[.pointer (some ⟨g, 0, none⟩), .bool false, .int .i64 0] 198))) := fun w2 g F2 c hd2 hn => by
  have hbt := r.tr.lt
  have hsz := c.size
  rw [← World.setCell_alloc_past _ bt (i * 3) _ (by omega)]
  have BD := Blk.made w2 [.pointer (some ⟨g, 0, none⟩), .bool false, .int .i64 0] 198
  have hd3 : DiskIn w2 g F2 d := hd2
  have C1 : Chg [bt] w2 ((w2.alloc (.cells #[.pointer (some ⟨g, 0, none⟩), .bool false, .int .i64 0] 198)).setCell ⟨bt, i * 3, none⟩ (.pointer (some ⟨w2.heap.size, 0, none⟩))) := ((Chg.refl _ _).alloc _).setCell (.inl (by simp)) _
  refine r.lay hlt hf hx (k := w2.heap.size) ⟨d, none⟩ ⟨hd3.fit, fun n h => by cases h⟩ (w2.heap.size :: F2) ⟨g, F2, rfl, fun hm => ?_, ?_, ?_⟩ (fun j hj => ?_) ((c.mono (by simp)).trans C1) ?_
  ·have := hd3.lt _ hm
   omega
  ·exact BD.other (fun e => by have : bt = w2.heap.size := e; omega) _
  ·exact (DiskT g d F2).stays _ _ _ hd2 C1 (fun j hj hm => by
    have h1 := List.mem_singleton.1 hm
    have h2 := hn j hj
    omega)
  ·rcases List.mem_cons.1 hj with rfl | hj
   ·exact hsz
   ·exact hn j hj
  ·exact ((r.tr.chg c (by simp)).alloc _).set (i * 3) _
 have HF := Lib.hid hfn
 clear hlt hf r hx hi h0 hfn
 go_enter Tryz.func93, Tryz.ntmps93
 go_wp2_with fail
 refine TK.out.mono ?_
 rintro e w1 ⟨rfl, q, hw⟩
 subst hw
 have C1 : Hid (Chg [] w (w.drewN q)) := (Chg.refl [] w).drewN q
 clear TK
 cases hfl : x.full with
 | true =>
   have S1 := Lib.hid (SAME.out _ C1.out)
   clear SAME LAY HF hen
   go_wp2_with fail
   go_ret
   exact ⟨C1.out.mono (by simp), .inl ⟨hfl, rfl, S1⟩⟩
 | false =>
   have H1 := Lib.hid (HF.out _ C1.out)
   go_wp2_with fail
   refine H1.out.mono ?_
   rintro e w2 (⟨hno, rfl, C⟩ | ⟨hyes, g, F2, rfl, D, N, C⟩)
   ·have S1 := Lib.hid (SAME.out _ (C1.out.trans C.out))
    have CB : Hid (Chg [bt] w w2) := (C1.out.trans C.out).mono (by simp)
    clear SAME LAY HF H1 hen
    go_wp2_with fail
    go_ret
    exact ⟨CB, .inr (.inl ⟨hfl, hno, rfl, S1⟩)⟩
   ·have C2 : Hid (Chg [] w w2) := C1.out.trans C.out
    have S1 := Lib.hid (LAY.out w2 g F2 C2.out D.out (fun k hk => N.out k hk))
    have CB : Hid (Chg [bt] w ((w2.setCell ⟨bt, i * 3, none⟩ (.pointer (some ⟨w2.heap.size, 0, none⟩))).alloc (.cells #[.pointer (some ⟨g, 0, none⟩), .bool false, .int .i64 0] 198))) := ((C2.out.mono (by simp)).setCell (.inl (by simp)) _).alloc _
    have BT2 := (BT.out.chg C2.out (by simp)).alloc (.cells #[.pointer (some ⟨g, 0, none⟩), .bool false, .int .i64 0] 198)
    have c0 : w2.cell? ⟨bt, i * 3, none⟩ = some (ptrV (ps i 0)) := (C2.out.cell (p := ⟨bt, i * 3, none⟩) BT.out.lt (by simp)).trans (c0.out 0).1
    have f0 := (BT.out.chg C2.out (by simp)).free (i * 3)
    have hbt : bt < w2.heap.size := (BT.out.chg C2.out (by simp)).lt
    clear SAME LAY HF H1 hen BT BT2 D N C
    go_wp2_with fail
    go_ret
    exact ⟨CB, .inr (.inr ⟨hfl, hyes, rfl, S1⟩)⟩

end Go.Proofs.YtkafkdlgflkjgaaGreat

/-
  The program's bay: disks that move within a slot: cut, Pull, Push. By an AI agent.
-/
namespace Go.Proofs.YtkafkdlgflkjgaaGreat
open Go.RowKit Go.Maps

/-- A slot behind a cut. -/
def Slot.cutTo (keep : List Bool) (x : Slot) : Slot := match x.coming with
 | some c => { x with inn := some c, coming := none }
 | none => { x with inn := x.inn.map (fun d => d.lay (d.disk.crash keep)) }

theorem Bay.cutSlot_eq (keeps : List (List Bool)) (i : Nat) (x : Slot) : Bay.cutSlot keeps i x = x.cutTo (keeps.getD i []) := rfl

theorem Bay.turn_self {y : Bay} {i : Nat} {x : Slot} (hx : y.slots[i]? = some x) : y.turn i (fun _ => x) = y := by
 have : y.slots.modify i (fun _ => x) = y.slots := by
  apply List.ext_getElem?
  intro m
  rw [List.getElem?_modify]
  by_cases h : i = m
  ·subst h
   rw [hx]
   simp
  ·simp [h]
 unfold Bay.turn
 rw [Int.toNat_natCast, this]

section
variable {w w' : World} {b : Nat} {F : List Nat} {y : Bay} {bt : Nat} {vs : List Value} {ps : Nat → Nat → Option Nat} {Fs : Nat → Nat → List Nat} (hlt : ∀ k ∈ F, k < w.heap.size) (hf : y.Fit) (r : BRep w b F y bt vs ps Fs) {i : Nat} {x : Slot} (hx : y.slots[i]? = some x)
include hlt hf r hx

/-- The disk that is coming is in its slot. -/
theorem BRep.come {c : Dev} (hcm : x.coming = some c) (hc : Chg (bt :: Fs i 0) w w') (hb : Blk w' bt 146 ((vs.set (i * 3) (ptrV (ps i 2))).set (i * 3 + 2) (ptrV none))) :
 Turns w F (BayT b (y.turn i (fun _ => { x with inn := some c, coming := none }))) w' := by
 have hs := hf.slot hx
 have hi : i < y.slots.length := (List.getElem?_eq_some_iff.1 hx).1
 have hln := r.len
 have hoff : ∀ j, j ≠ 0 → ∀ q ∈ Fs i j, q ∉ bt :: Fs i 0 := fun j hj q hq hm => by
  rcases List.mem_cons.1 hm with h | h
  ·exact (r.offb i j q hq).2 h
  ·exact r.off i j i 0 (.inr hj) q hq h
 refine r.slot hlt hf hx { x with inn := some c, coming := none } ⟨fun d hd => ?_, fun d hd => ?_⟩ _ (fun j => if j = 0 then ps i 2 else if j = 2 then none else ps i j) (fun j => if j = 0 then Fs i 2 else if j = 2 then [] else Fs i j) (hc.mono (by intro q hq; simp at hq ⊢; rcases hq with h | h; exact .inl h; exact .inr (.inl h))) hb (by simp) (fun j hj => ?_) (fun a j ha hj => ?_) (fun j => ?_) (fun j q hq => ?_) (fun j j' hne q hq => ?_)
 ·rcases hd with hd | hd | hd
  ·obtain rfl : c = d := by simpa using hd
   exact hs.devs c (.inr (.inr hcm))
  ·exact hs.devs d (.inr (.inl hd))
  ·cases hd
 ·rcases hd with hd | hd
  ·exact hs.clean d (.inl hd)
  ·cases hd
 ·match j, hj with
  | 0, _ => rw [List.getElem?_set_ne (by omega), Nat.add_zero, List.getElem?_set_self (by omega)]; rfl
  | 1, _ => rw [List.getElem?_set_ne (by omega), List.getElem?_set_ne (by omega)]; exact r.ptr i 1 hi (by decide)
  | 2, _ => rw [List.getElem?_set_self (by simp; omega)]; rfl
 ·rw [List.getElem?_set_ne (by omega), List.getElem?_set_ne (by omega)]
 ·match j with
  | 0 =>
    have h1 := (r.dev i 2).chg hc (hoff 2 (by decide))
    rw [Bay.place_of hx, show x.get 2 = some c from hcm] at h1
    exact h1
  | 1 =>
    have h1 := (r.dev i 1).chg hc (hoff 1 (by decide))
    rw [Bay.place_of hx] at h1
    exact h1
  | 2 => exact PlaceIn.none _
  | m + 3 =>
    have h1 := (r.dev i (m + 3)).chg hc (hoff (m + 3) (by omega))
    rw [Bay.place_of hx] at h1
    rw [if_neg (by omega), if_neg (by omega), if_neg (by omega), if_neg (by omega)]
    exact h1
 ·by_cases h0 : j = 0
  ·rw [if_pos h0] at hq
   exact .inl ⟨2, hq⟩
  ·rw [if_neg h0] at hq
   by_cases h2 : j = 2
   ·rw [if_pos h2] at hq; cases hq
   ·rw [if_neg h2] at hq
    exact .inl ⟨j, hq⟩
 ·have key : ∀ j, ∃ s, (∀ q ∈ (if j = 0 then Fs i 2 else if j = 2 then [] else Fs i j), q ∈ Fs i s) ∧ s = if j = 0 then 2 else if j = 2 then 0 else j := fun j => by
   refine ⟨_, fun q hq => ?_, rfl⟩
   by_cases h0 : j = 0
   ·rw [if_pos h0] at hq ⊢; exact hq
   ·rw [if_neg h0] at hq ⊢
    by_cases h2 : j = 2
    ·rw [if_pos h2] at hq; cases hq
    ·rw [if_neg h2] at hq ⊢; exact hq
  obtain ⟨s, hs1, hs2⟩ := key j
  obtain ⟨s', hs1', hs2'⟩ := key j'
  intro hm
  refine r.off i s i s' (.inr ?_) q (hs1 q hq) (hs1' q hm)
  rw [hs2, hs2']
  split <;> split <;> (try split) <;> (try split) <;> omega

/-- The disk that was put aside is coming. -/
theorem BRep.push (hc : Chg [bt] w w') (hb : Blk w' bt 146 ((vs.set (i * 3 + 1) (ptrV none)).set (i * 3 + 2) (ptrV (ps i 1)))) :
 Turns w F (BayT b (y.turn i (fun _ => { x with aside := none, coming := x.aside }))) w' := by
 have hs := hf.slot hx
 have hi : i < y.slots.length := (List.getElem?_eq_some_iff.1 hx).1
 have hln := r.len
 have hoff : ∀ j, ∀ q ∈ Fs i j, q ∉ [bt] := fun j q hq hm => (r.offb i j q hq).2 (List.mem_singleton.1 hm)
 refine r.slot hlt hf hx { x with aside := none, coming := x.aside } ⟨fun d hd => ?_, fun d hd => ?_⟩ _ (fun j => if j = 1 then none else if j = 2 then ps i 1 else ps i j) (fun j => if j = 1 then [] else if j = 2 then Fs i 1 else Fs i j) (hc.mono (by simp)) hb (by simp) (fun j hj => ?_) (fun a j ha hj => ?_) (fun j => ?_) (fun j q hq => ?_) (fun j j' hne q hq => ?_)
 ·rcases hd with hd | hd | hd
  ·exact hs.devs d (.inl hd)
  ·cases hd
  ·exact hs.devs d (.inr (.inl hd))
 ·rcases hd with hd | hd
  ·cases hd
  ·exact hs.clean d (.inl hd)
 ·match j, hj with
  | 0, _ => rw [List.getElem?_set_ne (by omega), List.getElem?_set_ne (by omega)]; exact r.ptr i 0 hi (by decide)
  | 1, _ => rw [List.getElem?_set_ne (by omega), List.getElem?_set_self (by omega)]; rfl
  | 2, _ => rw [List.getElem?_set_self (by simp; omega)]; rfl
 ·rw [List.getElem?_set_ne (by omega), List.getElem?_set_ne (by omega)]
 ·match j with
  | 0 =>
    have h1 := (r.dev i 0).chg hc (hoff 0)
    rw [Bay.place_of hx] at h1
    exact h1
  | 1 => exact PlaceIn.none _
  | 2 =>
    have h1 := (r.dev i 1).chg hc (hoff 1)
    rw [Bay.place_of hx] at h1
    exact h1
  | m + 3 =>
    have h1 := (r.dev i (m + 3)).chg hc (hoff (m + 3))
    rw [Bay.place_of hx] at h1
    rw [if_neg (by omega), if_neg (by omega), if_neg (by omega), if_neg (by omega)]
    exact h1
 ·by_cases h0 : j = 1
  ·rw [if_pos h0] at hq; cases hq
  ·rw [if_neg h0] at hq
   by_cases h2 : j = 2
   ·rw [if_pos h2] at hq
    exact .inl ⟨1, hq⟩
   ·rw [if_neg h2] at hq
    exact .inl ⟨j, hq⟩
 ·have key : ∀ j, ∃ s, (∀ q ∈ (if j = 1 then [] else if j = 2 then Fs i 1 else Fs i j), q ∈ Fs i s) ∧ s = if j = 1 then 2 else if j = 2 then 1 else j := fun j => by
   refine ⟨_, fun q hq => ?_, rfl⟩
   by_cases h0 : j = 1
   ·rw [if_pos h0] at hq; cases hq
   ·rw [if_neg h0] at hq ⊢
    by_cases h2 : j = 2
    ·rw [if_pos h2] at hq ⊢; exact hq
    ·rw [if_neg h2] at hq ⊢; exact hq
  obtain ⟨s, hs1, hs2⟩ := key j
  obtain ⟨s', hs1', hs2'⟩ := key j'
  intro hm
  refine r.off i s i s' (.inr ?_) q (hs1 q hq) (hs1' q hm)
  rw [hs2, hs2']
  split <;> split <;> (try split) <;> (try split) <;> omega

end
end Go.Proofs.YtkafkdlgflkjgaaGreat

/-
  The program's bay: cut of a slot, Pull, Push, Swap, Load. By an AI agent.
-/
namespace Go.Proofs.YtkafkdlgflkjgaaGreat
open Go.RowKit Go.Maps

set_option maxHeartbeats 2000000 in
set_option maxRecDepth 100000 in
theorem traycut_any {w : World} {b : Nat} {F : List Nat} {y : Bay} {bt : Nat} {vs : List Value} {ps : Nat → Nat → Option Nat} {Fs : Nat → Nat → List Nat} (hlt : ∀ k ∈ F, k < w.heap.size) (hf : y.Fit) (r : BRep w b F y bt vs ps Fs) {i : Nat} {x : Slot} (hx : y.slots[i]? = some x)
 (v : Value) (keep : List Bool) (hv : RdV w v (keep.map Value.bool)) (hold : keep ≠ [] → ∀ k, v.ownBlock = some k → k ∉ F ∧ k < w.heap.size) :
 Calls Tryz.prog 76 #[.pointer (some ⟨bt, i * 3, none⟩), v] w fun e w' => e = .returned (.tuple #[]) ∧ Hid (Turns w F (BayT b (y.turn i (fun _ => x.cutTo keep))) w') := by
 have hi := (List.getElem?_eq_some_iff.1 hx).1
 have hs := hf.slot hx
 have c0 := r.tr.cell (r.ptr i 0 hi (by decide))
 have c2 := ptrV_get r.tr (r.ptr i 2 hi (by decide))
 have d0 := r.dev i 0
 have d2 := r.dev i 2
 rw [Bay.place_of hx] at d0 d2
 cases hin : x.inn with
 | none =>
   have p0 := (d0.isNone (show x.get 0 = none from hin)).1
   cases hcm : x.coming with
   | none =>
     have p2 := (d2.isNone (show x.get 2 = none from hcm)).1
     have e1 : x.cutTo keep = x := by
      unfold Slot.cutTo
      rw [hcm]
      simp only
      rw [hin]
      cases x
      simp_all
     have T0 : Hid (Turns w F (BayT b (y.turn i (fun _ => x.cutTo keep))) w) := by
      rw [e1, Bay.turn_self hx]
      exact Turns.same (T := BayT b y) ⟨hlt, hf, bt, vs, ps, Fs, r⟩ rfl
     rw [p0] at c0
     rw [p2] at c2
     replace c0 : w.cell? ⟨bt, i * 3, none⟩ = some (.pointer none) := c0
     replace c2 : w.cell? ⟨bt, i * 3 + 2, none⟩ = some (.pointer none) := c2
     clear hlt hf r hx hi hs d0 d2 hin hcm p0 p2 e1 hv hold
     go_enter Tryz.func76, Tryz.ntmps76
     go_wp2_with fail
     go_end0
     exact ⟨rfl, T0⟩
   | some c =>
     obtain ⟨k, p2, _⟩ := d2.isSome (show x.get 2 = some c from hcm)
     have e1 : x.cutTo keep = { x with inn := some c, coming := none } := by
      unfold Slot.cutTo
      rw [hcm]
     have f0 := r.tr.free (i * 3)
     have f2 := r.tr.free (i * 3 + 2)
     have T0 : Hid (Turns w F (BayT b (y.turn i (fun _ => x.cutTo keep))) ((w.setCell ⟨bt, i * 3, none⟩ (.pointer (some ⟨k, 0, none⟩))).setCell ⟨bt, i * 3 + 2, none⟩ (.pointer none))) := by
      rw [e1]
      refine r.come hlt hf hx hcm (((Chg.refl _ _).setCell (.inl (by simp)) _).setCell (.inl (by simp)) _) ?_
      rw [p2]
      exact (r.tr.set _ _).set _ _
     rw [p0] at c0
     rw [p2] at c2
     replace c0 : w.cell? ⟨bt, i * 3, none⟩ = some (.pointer none) := c0
     replace c2 : w.cell? ⟨bt, i * 3 + 2, none⟩ = some (.pointer (some ⟨k, 0, none⟩)) := c2
     clear hlt hf r hx hi hs d0 d2 hin hcm p0 p2 e1 hv hold
     go_enter Tryz.func76, Tryz.ntmps76
     go_wp2_with fail
     go_end0
     exact ⟨rfl, T0⟩
 | some d =>
   obtain ⟨kd, p0, hk⟩ := d0.isSome (show x.get 0 = some d from hin)
   obtain ⟨g, Fd, hFd, hkd, hb, hdk⟩ := hk.rep
   have cd := hb.cell (j := 0) rfl
   have hdi : ∀ q ∈ Fd, q ∈ F := fun q hq => r.inF.2.2 i 0 q (by rw [hFd]; exact List.mem_cons_of_mem _ hq)
   have CR := Lib.hid (dcrash_any g Fd d.disk v keep w hdk hv (fun hne q hq => ⟨fun hm => (hold hne q hq).1 (hdi q hm), (hold hne q hq).2⟩))
   have hbt : bt ∉ Fd := fun hm => (r.offb i 0 bt (by rw [hFd]; exact List.mem_cons_of_mem _ hm)).2 rfl
   have BT := Lib.hid r.tr
   cases hcm : x.coming with
   | none =>
     have p2 := (d2.isNone (show x.get 2 = none from hcm)).1
     have e1 : x.cutTo keep = { x with inn := some (d.lay (d.disk.crash keep)) } := by
      unfold Slot.cutTo
      rw [hcm]
      simp only
      rw [hin]
      rfl
     have T0 : Hid (∀ w', Turns w Fd (DiskT g (d.disk.crash keep)) w' → Turns w F (BayT b (y.turn i (fun _ => x.cutTo keep))) w') := fun w' ⟨F2, h1, h2, h3⟩ => by
      rw [e1]
      have hf0 := hs.devs d (.inl hin)
      have e2 : y.turn i (fun _ => { x with inn := some (d.lay (d.disk.crash keep)) }) = y.setIn i (d.lay (d.disk.crash keep)) := (Bay.turn_const (fun x => { x with inn := some (d.lay (d.disk.crash keep)) }) hx).symm
      rw [e2]
      refine r.inn hlt hf hx p0 (d.lay (d.disk.crash keep)) ⟨hf0.1.crash keep, hf0.2⟩ (kd :: F2) ⟨g, F2, rfl, fun hm => ?_, hb.chg h3 hkd, h1⟩ (fun j hj => ?_) (h3.mono (by rw [hFd]; intro q hq; exact List.mem_cons_of_mem _ hq))
      ·rcases h2 kd hm with q | q
       ·exact hkd q
       ·have := hb.lt; omega
      ·rw [hFd]
       rcases List.mem_cons.1 hj with rfl | hj
       ·exact .inl List.mem_cons_self
       ·exact (h2 j hj).imp (List.mem_cons_of_mem _) id
     have C2x : Hid (∀ w', Turns w Fd (DiskT g (d.disk.crash keep)) w' → w'.cell? ⟨bt, i * 3 + 2, none⟩ = some (.pointer none)) := fun w' ⟨F2, h1, h2, h3⟩ => by
      rw [p2] at c2
      exact (h3.cell (p := ⟨bt, i * 3 + 2, none⟩) r.tr.lt hbt).trans c2
     rw [p0] at c0
     replace c0 : w.cell? ⟨bt, i * 3, none⟩ = some (.pointer (some ⟨kd, 0, none⟩)) := c0
     clear hlt hf r hx hi hs d0 d2 hin hcm p0 p2 e1 hv hold c2 hk hb hdk hdi hFd hkd hbt BT
     go_enter Tryz.func76, Tryz.ntmps76
     go_wp2_with fail
     refine CR.out.mono ?_
     rintro e w1 ⟨rfl, hT⟩
     have c2 := C2x.out _ hT
     have T1 := Lib.hid (T0.out _ hT)
     clear CR T0 C2x hT
     go_wp2_with fail
     go_end0
     exact ⟨rfl, T1⟩
   | some c =>
     obtain ⟨k, p2, _⟩ := d2.isSome (show x.get 2 = some c from hcm)
     have e1 : x.cutTo keep = { x with inn := some c, coming := none } := by
      unfold Slot.cutTo
      rw [hcm]
     have T0 : Hid (∀ w', Turns w Fd (DiskT g (d.disk.crash keep)) w' → Turns w F (BayT b (y.turn i (fun _ => x.cutTo keep))) ((w'.setCell ⟨bt, i * 3, none⟩ (.pointer (some ⟨k, 0, none⟩))).setCell ⟨bt, i * 3 + 2, none⟩ (.pointer none))) := fun w' ⟨F2, h1, h2, h3⟩ => by
      rw [e1]
      refine r.come hlt hf hx hcm (((h3.mono (by rw [hFd]; intro q hq; simp [hq])).setCell (.inl (by simp)) _).setCell (.inl (by simp)) _) ?_
      rw [p2]
      exact ((r.tr.chg h3 hbt).set _ _).set _ _
     have C2x : Hid (∀ w', Turns w Fd (DiskT g (d.disk.crash keep)) w' → w'.cell? ⟨bt, i * 3 + 2, none⟩ = some (.pointer (some ⟨k, 0, none⟩)) ∧ w'.cell? ⟨bt, i * 3, none⟩ = some (.pointer (some ⟨kd, 0, none⟩)) ∧ w'.frozen? ⟨bt, i * 3, none⟩ = false ∧ w'.frozen? ⟨bt, i * 3 + 2, none⟩ = false) := fun w' ⟨F2, h1, h2, h3⟩ => by
      rw [p2] at c2
      rw [p0] at c0
      exact ⟨(h3.cell (p := ⟨bt, i * 3 + 2, none⟩) r.tr.lt hbt).trans c2, (h3.cell (p := ⟨bt, i * 3, none⟩) r.tr.lt hbt).trans c0, (r.tr.chg h3 hbt).free _, (r.tr.chg h3 hbt).free _⟩
     rw [p0] at c0
     replace c0 : w.cell? ⟨bt, i * 3, none⟩ = some (.pointer (some ⟨kd, 0, none⟩)) := c0
     clear hlt hf r hx hi hs d0 d2 hin hcm p0 p2 e1 hv hold c2 hk hb hdk hdi hFd hkd hbt BT
     go_enter Tryz.func76, Tryz.ntmps76
     go_wp2_with fail
     refine CR.out.mono ?_
     rintro e w1 ⟨rfl, hT⟩
     obtain ⟨c2, c0b, f0, f2⟩ := C2x.out _ hT
     have T1 := Lib.hid (T0.out _ hT)
     clear CR T0 C2x hT
     go_wp2_with fail
     go_end0
     exact ⟨rfl, T1⟩

section
variable (b : Nat) (F : List Nat) (y : Bay) (w : World) (h : (BayT b y F).P w)
include h

end
end Go.Proofs.YtkafkdlgflkjgaaGreat

/-
  The program's bay: Cut. By an AI agent.
-/
namespace Go.Proofs.YtkafkdlgflkjgaaGreat
open Go.RowKit Go.Maps

theorem Turns.chain {w w1 w2 : World} {F F1 : List Nat} {T : List Nat → Thing} (hF : ∀ k ∈ F1, k ∈ F ∨ w.heap.size ≤ k) (c : Chg F w w1) (t : Turns w1 F1 T w2) : Turns w F T w2 := by
 obtain ⟨F', h1, h2, h3⟩ := t
 have hz := c.size
 exact ⟨F', h1, fun k hk => by
  rcases h2 k hk with q | q
  ·exact hF k q
  ·exact .inr (by omega), c.fresh h3 hF⟩

/-- What lies there as it did, in a world in which those blocks stayed. -/
theorem BRs.chgOff {w w' : World} {s : List Nat} {v : Value} {ds : List BoolD} (h : BRs w v ds) (c : Chg s w w') (h1 : ds ≠ [] → ∀ k, v.ownBlock = some k → k ∉ s) (h2 : ∀ d ∈ ds, d.bs ≠ [] → ∀ k, d.v.ownBlock = some k → k ∉ s) : BRs w' v ds := by
 rcases h with h | ⟨b, o, cp, rfl, hb, hl, h⟩
 ·exact .inl h
 ·refine .inr ⟨b, o, cp, rfl, Nat.lt_of_lt_of_le hb c.size, hl, fun i d hd => ?_⟩
  have k := h i d hd
  have hm := List.mem_of_getElem? hd
  have hne : ds ≠ [] := fun e => by rw [e] at hm; cases hm
  refine ⟨(c.cell (p := ⟨b, o + i, none⟩) hb (h1 hne b rfl)).trans k.c0, ?_, k.big⟩
  by_cases hn : d.bs = []
  ·rw [hn]
   rcases k.rd with q | ⟨b2, o2, c2, hv, _⟩
   ·exact .inl ⟨rfl, q.2⟩
   ·rw [hn] at hv
    exact .inl ⟨rfl, _, _, hv⟩
  ·exact k.rd.chg c (h2 d hm hn)

namespace Bay

/-- The first j slots behind a cut. -/
def cutPart (y : Bay) (keeps : List (List Bool)) (j : Nat) : Bay := { y with slots := y.slots.mapIdx (fun a x => if a < j then cutSlot keeps a x else x) }

theorem cutPart_len (y : Bay) (keeps : List (List Bool)) (j : Nat) : (y.cutPart keeps j).slots.length = y.slots.length := by simp [cutPart]

theorem cutPart_zero (y : Bay) (keeps : List (List Bool)) : y.cutPart keeps 0 = y := by
 have : y.slots.mapIdx (fun a x => if a < 0 then cutSlot keeps a x else x) = y.slots := by
  apply List.ext_getElem?
  intro m
  simp
 unfold cutPart
 rw [this]

theorem cutPart_at {y : Bay} (keeps : List (List Bool)) {j : Nat} {x : Slot} (h : y.slots[j]? = some x) : (y.cutPart keeps j).slots[j]? = some x := by
 unfold cutPart
 simp [h]

theorem cutPart_next {y : Bay} (keeps : List (List Bool)) {j : Nat} {x : Slot} (h : y.slots[j]? = some x) : y.cutPart keeps (j + 1) = (y.cutPart keeps j).turn j (fun _ => x.cutTo (keeps.getD j [])) := by
 unfold cutPart turn
 rw [Int.toNat_natCast]
 congr 1
 apply List.ext_getElem?
 intro m
 rw [List.getElem?_modify]
 simp only [List.getElem?_mapIdx]
 by_cases hm : j = m
 ·subst hm
  rw [h]
  simp [cutSlot_eq]
 ·cases y.slots[m]? with
  | none => simp [hm]
  | some z =>
    by_cases h1 : m < j
    ·simp [hm, h1, show m < j + 1 by omega]
    ·simp [hm, h1, show ¬ m < j + 1 by omega]

theorem cutPart_all (y : Bay) (keeps : List (List Bool)) : { y.cutPart keeps y.slots.length with dark := false, trip := none } = y.cut keeps := by
 have e : y.slots.mapIdx (fun a x => if a < y.slots.length then cutSlot keeps a x else x) = y.slots.mapIdx (cutSlot keeps) := by
  apply List.ext_getElem?
  intro m
  simp only [List.getElem?_mapIdx]
  cases h : y.slots[m]? with
  | none => rfl
  | some z =>
    have := (List.getElem?_eq_some_iff.1 h).1
    simp [this]
 unfold cutPart cut
 simp only [e]

end Bay

set_option maxHeartbeats 2000000 in
set_option maxRecDepth 100000 in
theorem bcut_any (b : Nat) (F : List Nat) (y : Bay) (w : World) (h : (BayT b y F).P w) (v : Value) (ds : List BoolD) (hv : BRs w v ds) (hold : ds ≠ [] → ∀ k, v.ownBlock = some k → k ∉ F ∧ k < w.heap.size) (holds : ∀ d ∈ ds, d.bs ≠ [] → ∀ k, d.v.ownBlock = some k → k ∉ F ∧ k < w.heap.size) :
 Calls Tryz.prog 19 #[.pointer (some ⟨b, 0, none⟩), v] w fun e w' => e = .returned (.tuple #[]) ∧ Hid (Turns w F (BayT b (y.cut (ds.map (·.bs)))) w') := by
 have h' : BayIn w b F y := h
 obtain ⟨n, hn⟩ : ∃ n, n = y.slots.length := ⟨_, rfl⟩
 have hn17 : n ≤ 17 := by have := h'.fit.len; omega
 have HV := Lib.hid hv
 have HO := Lib.hid hold
 have HS := Lib.hid holds
 have hdl := hv.len
 obtain ⟨vo, vc, rfl⟩ := hv.slice
 have H0 : Hid ((BayT b (y.cutPart (ds.map (·.bs)) 0) F).P w) := by rw [Bay.cutPart_zero]; exact h
 obtain ⟨bt, vs, ps, Fs, r⟩ := h'.rep
 have c0 : w.cell? ⟨b, 0, none⟩ = some (.slice (some ⟨bt, 0, none⟩) n n) := by rw [hn]; exact r.blk.cell (j := 0) rfl
 replace hn := Lib.hid hn
 clear h h' r hv hold holds
 go_enter Tryz.func19, Tryz.ntmps19
 go_wp2_with fail
 go_loopw [11] (fun i wr => ∃ (j : Nat) (F1 : List Nat), j ≤ n ∧ i = .int .i64 (j : Int) ∧ Hid ((BayT b (y.cutPart (ds.map (·.bs)) j) F1).P wr) ∧ Hid (∀ k ∈ F1, k ∈ F ∨ w.heap.size ≤ k) ∧ Hid (Chg F w wr)) (fun i _ => n - (intOf i).toNat)
 case atStart => exact ⟨0, F, Nat.zero_le _, rfl, H0, fun k hk => .inl hk, Chg.refl _ _⟩
 case round =>
  obtain ⟨j, F1, hj, rfl, T, HF, C⟩ := hrel
  clear H0 c0
  have hj0 : (0 : Int) ≤ j := Int.natCast_nonneg _
  have TI : BayIn wr b F1 (y.cutPart (ds.map (·.bs)) j) := T.out
  obtain ⟨bt2, vs2, ps2, Fs2, r2⟩ := TI.rep
  have c0 : wr.cell? ⟨b, 0, none⟩ = some (.slice (some ⟨bt2, 0, none⟩) n n) := by
   have := r2.blk.cell (j := 0) rfl
   rw [Bay.cutPart_len, ← hn.out] at this
   exact this
  by_cases hlt : j < n
  ·have hj1 : (j : Int) < n := by omega
   obtain ⟨x, hx⟩ : ∃ x, y.slots[j]? = some x := ⟨_, List.getElem?_eq_getElem (by rw [← hn.out]; exact hlt)⟩
   have hx2 := Bay.cutPart_at (ds.map (·.bs)) hx
   have NX := Lib.hid (Bay.cutPart_next (ds.map (·.bs)) hx)
   have VW : Hid (BRs wr (.slice vo ds.length vc) ds) := HV.out.chgOff C.out (fun hne k hk => (HO.out hne k hk).1) (fun d hd hne k hk => (HS.out d hd hne k hk).1)
   have hsz := C.out.size
   by_cases hd : j < ds.length
   ·have hd1 : (j : Int) < ds.length := by omega
    obtain ⟨d, hdj⟩ : ∃ d, ds[j]? = some d := ⟨_, List.getElem?_eq_getElem hd⟩
    obtain ⟨vb, vf, rfl, hvb, BI⟩ := VW.out.at hdj
    have hkd : (ds.map (·.bs)).getD j [] = d.bs := by simp [List.getD, hdj]
    rw [hkd] at NX
    have cd := BI.c0
    have CT := Lib.hid (traycut_any TI.lt TI.fit r2 hx2 d.v d.bs BI.rd (fun hne k hk => by
     obtain ⟨q1, q2⟩ := HS.out d (List.mem_of_getElem? hdj) hne k hk
     refine ⟨fun hm => ?_, by omega⟩
     rcases HF.out k hm with q | q
     ·exact q1 q
     ·omega))
    have E : Hid (∀ w', Turns wr F1 (BayT b ((y.cutPart (ds.map (·.bs)) j).turn j (fun _ => x.cutTo d.bs))) w' → ∃ F2, (BayT b (y.cutPart (ds.map (·.bs)) (j + 1)) F2).P w' ∧ (∀ k ∈ F2, k ∈ F ∨ w.heap.size ≤ k) ∧ Chg F w w') := fun w' t => by
     rw [← NX.out] at t
     obtain ⟨F2, t1, t2, t3⟩ := Turns.chain HF.out C.out t
     exact ⟨F2, t1, t2, t3⟩
    clear TI r2 hx hx2 NX VW BI hkd T HF C
    obtain ⟨dv, db⟩ := d
    dsimp only at cd CT E
    replace hdj := Lib.hid hdj
    go_wp2_with fail
    refine CT.out.mono ?_
    rintro e w2 ⟨rfl, hT⟩
    obtain ⟨F2, t1, t2, t3⟩ := E.out _ hT.out
    replace t1 := Lib.hid t1
    replace t2 := Lib.hid t2
    replace t3 := Lib.hid t3
    clear CT E hT cd c0
    go_wp2_with fail
    exact ⟨⟨j + 1, F2, by omega, by go_num, t1, t2, t3⟩, by simp [intOf]; omega⟩
   ·have hd1 : ¬ (j : Int) < ds.length := by omega
    have hkd : (ds.map (·.bs)).getD j [] = [] := by simp [List.getD, List.getElem?_eq_none (show ds.length ≤ j by omega)]
    rw [hkd] at NX
    have CT := Lib.hid (traycut_any TI.lt TI.fit r2 hx2 (.slice none 0 0) [] (.inl ⟨rfl, _, _, rfl⟩) (fun hne => absurd rfl hne))
    have E : Hid (∀ w', Turns wr F1 (BayT b ((y.cutPart (ds.map (·.bs)) j).turn j (fun _ => x.cutTo []))) w' → ∃ F2, (BayT b (y.cutPart (ds.map (·.bs)) (j + 1)) F2).P w' ∧ (∀ k ∈ F2, k ∈ F ∨ w.heap.size ≤ k) ∧ Chg F w w') := fun w' t => by
     rw [← NX.out] at t
     obtain ⟨F2, t1, t2, t3⟩ := Turns.chain HF.out C.out t
     exact ⟨F2, t1, t2, t3⟩
    clear TI r2 hx hx2 NX VW hkd T HF C
    go_wp2_with fail
    refine CT.out.mono ?_
    rintro e w2 ⟨rfl, hT⟩
    obtain ⟨F2, t1, t2, t3⟩ := E.out _ hT.out
    replace t1 := Lib.hid t1
    replace t2 := Lib.hid t2
    replace t3 := Lib.hid t3
    clear CT E hT c0
    go_wp2_with fail
    exact ⟨⟨j + 1, F2, by omega, by go_num, t1, t2, t3⟩, by simp [intOf]; omega⟩
  ·obtain rfl : j = n := by omega
   have hB := r2.blk
   have c1 := hB.cell (j := 1) rfl
   have c2 := hB.cell (j := 2) rfl
   have c3 := hB.cell (j := 3) rfl
   have f1 := hB.free 1
   have f2 := hB.free 2
   have f3 := hB.free 3
   have E : Hid (Turns w F (BayT b (y.cut (ds.map (·.bs)))) (((wr.setCell ⟨b, 1, none⟩ (.bool false)).setCell ⟨b, 2, none⟩ (.bool false)).setCell ⟨b, 3, none⟩ (.int .i64 0))) := by
    refine Turns.chain HF.out C.out ?_
    have CC : Chg [b] wr (((wr.setCell ⟨b, 1, none⟩ (.bool false)).setCell ⟨b, 2, none⟩ (.bool false)).setCell ⟨b, 3, none⟩ (.int .i64 0)) := (((Chg.refl _ _).setCell (.inl (by simp)) _).setCell (.inl (by simp)) _).setCell (.inl (by simp)) _
    rw [← Bay.cutPart_all, ← hn.out]
    refine r2.headTurns (y' := { y.cutPart (ds.map (·.bs)) j with dark := false, trip := none }) TI.lt (TI.fit.same rfl (fun m hm => by cases hm)) rfl CC ?_
    exact ((hB.set 1 (.bool false)).set 2 (.bool false)).set 3 (.int .i64 0)
   generalize (Value.bool (y.cutPart (ds.map (·.bs)) j).dark) = z1 at *
   generalize (Value.bool (y.cutPart (ds.map (·.bs)) j).trip.isSome) = z2 at *
   generalize (Value.int IntKind.i64 (((y.cutPart (ds.map (·.bs)) j).trip.getD 0 : Nat) : Int)) = z3 at *
   clear TI r2 hB T HF C
   go_wp2_with fail
   go_end0
   exact ⟨rfl, E⟩

end Go.Proofs.YtkafkdlgflkjgaaGreat

/-
  The program's bay: Swap, Load. By an AI agent.
-/
namespace Go.Proofs.YtkafkdlgflkjgaaGreat
open Go.RowKit Go.Maps

theorem Turns.later {w wA w' : World} {F : List Nat} {T : List Nat → Thing} (h : Turns wA F T w') (c : Chg [] w wA) : Turns w F T w' := by
 obtain ⟨F', h1, h2, h3⟩ := h
 have hz := c.size
 exact ⟨F', h1, fun k hk => (h2 k hk).imp id (fun q => Nat.le_trans hz q), (c.mono (by simp)).trans h3⟩

theorem enters_blank (args : Array Value) (w : World) : (callFunc 157 args).run Tryz.prog w = .ok (.enter 157 args) w := by
 have h1 : (Tryz.f157.name == "runtime.NumGoroutine") = false := by kernel_rfl
 have h2 : Tryz.f157.body.isNone = false := by kernel_rfl
 have h3 : ¬ Tryz.f157.name = "runtime.NumGoroutine" := by simpa using h1
 have h4 : ¬ Tryz.f157.body = none := fun e => by rw [e] at h2; cases h2
 simp [callFunc, go_sem, Tryz.func157, h3, h4]

/-- The function that makes a disk of noughts. -/
def blankV (c : Nat) : Value := .func (.func 157) #[] #[.pointer (some ⟨c, 0, none⟩)]

set_option maxHeartbeats 1000000 in
set_option maxRecDepth 100000 in
theorem blank_any (n : Int) (w : World) : Calls Tryz.prog 102 #[.int .i64 n] w fun e w' => e = .returned (blankV w.heap.size) ∧ w' = w.alloc (.cells #[.int .i64 n] 3) := by
 have hmf : ∀ (fn : Fn) (first cap : Array Value) (w : World), (Instr.makeFunc fn first cap).run Tryz.prog w = .ok (.func fn first cap) w := fun _ _ _ _ => rfl
 go_enter Tryz.func102, Tryz.ntmps102
 go_wp2_with fail
 go_ret
 exact ⟨rfl, rfl⟩

set_option maxHeartbeats 1000000 in
set_option maxRecDepth 100000 in
theorem blank1_any (n : Int) (hn : I64 n) (c : Nat) (w : World) (hc : w.cell? ⟨c, 0, none⟩ = some (.int .i64 n)) : Calls Tryz.prog 157 #[.pointer (some ⟨c, 0, none⟩)] w (DNewed w (1 ≤ n ∧ n ≤ 8192) (Dk.new n.toNat)) := by
 have D := Lib.hid (dnew_any n w hn)
 obtain ⟨d0, hd0⟩ : ∃ d, d = Dk.new n.toNat := ⟨_, rfl⟩
 obtain ⟨ok, hok⟩ : ∃ ok, ok = (1 ≤ n ∧ n ≤ 8192) := ⟨_, rfl⟩
 rw [← hd0, ← hok] at D ⊢
 clear hd0 hok
 go_enter Tryz.func157, Tryz.ntmps157
 go_wp2_with fail
 refine D.out.mono ?_
 rintro e w1 (⟨hno, rfl, C⟩ | ⟨hyes, g, F, rfl, T, N, C⟩)
 ·clear D
  go_wp2_with fail
  go_ret2
  exact .inl ⟨hno, rfl, C⟩
 ·clear D
  go_wp2_with fail
  go_ret2
  exact .inr ⟨hyes, g, F, rfl, T, N, C⟩

section
variable (b : Nat) (F : List Nat) (y : Bay) (w : World) (h : (BayT b y F).P w)
include h

end
end Go.Proofs.YtkafkdlgflkjgaaGreat

/-
  The program's bay: Read, Write, Flush. By an AI agent.
-/
namespace Go.Proofs.YtkafkdlgflkjgaaGreat
open Go.RowKit Go.Maps

theorem Bay.setIn_setIn (y : Bay) (s : Int) (d e : Dev) : (y.setIn s d).setIn s e = y.setIn s e := by
 unfold Bay.setIn Bay.turn
 simp only
 congr 1
 apply List.ext_getElem?
 intro m
 simp only [List.getElem?_modify]
 cases y.slots[m]? with
 | none => simp
 | some x => by_cases h : s.toNat = m <;> simp [h]

/-- What a closure does with the disk that it is handed. -/
theorem Handed.disk {w : World} {F : List Nat} {b : Nat} {y : Bay} {s : Int} {what k : Nat} {wA : World} (h : Handed w F b y s what k wA) :
 ∃ (g : Nat) (Fd : List Nat), wA.cell? ⟨k, 0, none⟩ = some (.pointer (some ⟨g, 0, none⟩)) ∧ (DiskT g (y.asked s).disk Fd).P wA ∧ Chg F w wA ∧
   (∀ wB dk, Turns wA Fd (DiskT g dk) wB → Turns w F (BayT b ((y.counted what).setIn s ((y.asked s).lay dk))) wB) ∧
   ∃ F1, (BayT b ((y.counted what).setIn s (y.asked s)) F1).P wA ∧ ∀ j ∈ F1, j ∈ F ∨ w.heap.size ≤ j := by
 obtain ⟨i, F1, bt, vs, ps, Fs, rfl, hlt, hf, r, hp, hdev, hi, hF, hC⟩ := h.it
 obtain ⟨y1, hy1⟩ : ∃ y1, y1 = (y.counted what).setIn i (y.asked i) := ⟨_, rfl⟩
 have e2 : ∀ e, (y.counted what).setIn i e = y1.setIn i e := fun e => by rw [hy1, Bay.setIn_setIn]
 rw [← hy1] at hf r hdev hi
 have hx : y1.slots[i]? = some y1.slots[i] := List.getElem?_eq_getElem hi
 have hd := r.dev i 0
 rw [← Bay.dev_place hi, hdev] at hd
 obtain ⟨k', hk', hk⟩ := hd.isSome rfl
 obtain rfl : k = k' := by rw [hp] at hk'; exact Option.some.inj hk'
 have hin : y1.slots[i].inn = some (y.asked i) := by
  rw [← hdev, Bay.dev_place hi, Bay.place_of hx]
  rfl
 have hf0 := (hf.slot hx).devs _ (.inl hin)
 obtain ⟨g, Fd, hFd, hkd, hb, hdk⟩ := hk.rep
 refine ⟨g, Fd, hb.cell (j := 0) rfl, hdk, hC, fun wB dk ⟨F2, h1, h2, h3⟩ => ?_, F1, by rw [← hy1]; exact ⟨hlt, hf, bt, vs, ps, Fs, r⟩, hF⟩
 have h1' : DiskIn wB g F2 dk := h1
 rw [e2]
 refine Turns.chain hF hC (r.inn hlt hf hx hp ((y.asked i).lay dk) ⟨h1'.fit, hf0.2⟩ (k :: F2) ⟨g, F2, rfl, fun hm => ?_, hb.chg h3 hkd, h1⟩ (fun j hj => ?_) (h3.mono (by rw [hFd]; intro q hq; exact List.mem_cons_of_mem _ hq)))
 ·rcases h2 k hm with q | q
  ·exact hkd q
  ·have := hb.lt; omega
 ·rw [hFd]
  rcases List.mem_cons.1 hj with rfl | hj
  ·exact .inl List.mem_cons_self
  ·exact (h2 j hj).imp (List.mem_cons_of_mem _) id

theorem Bay.asked_low {y : Bay} {s : Int} (h0 : y.startErr s = 0) (hl : y.Low 1000000000) : (y.asked s).disk.cache.length ≤ 1000000000 := by
 obtain ⟨_, _, _, d, hd, ha⟩ := Bay.startErr_ok h0
 rw [ha]
 exact Nat.le_trans (Bay.step_cache d) (hl.caches _ _ hd)

theorem Bay.start_ok {y : Bay} {s : Int} (h0 : y.startErr s = 0) (what : Nat) : y.start s what = (y.counted what).setIn s (y.asked s) := by
 obtain ⟨h1, h2, h3, d, hd, ha⟩ := Bay.startErr_ok h0
 rw [ha]
 exact (Bay.start_some h1 h2 h3 hd what).2.1

theorem enters_bread (args : Array Value) (w : World) : (callFunc 227 args).run Tryz.prog w = .ok (.enter 227 args) w := by
 have h1 : (Tryz.f227.name == "runtime.NumGoroutine") = false := by kernel_rfl
 have h2 : Tryz.f227.body.isNone = false := by kernel_rfl
 have h3 : ¬ Tryz.f227.name = "runtime.NumGoroutine" := by simpa using h1
 have h4 : ¬ Tryz.f227.body = none := fun e => by rw [e] at h2; cases h2
 simp [callFunc, go_sem, Tryz.func227, h3, h4]

theorem enters_bwrite (args : Array Value) (w : World) : (callFunc 191 args).run Tryz.prog w = .ok (.enter 191 args) w := by
 have h1 : (Tryz.f191.name == "runtime.NumGoroutine") = false := by kernel_rfl
 have h2 : Tryz.f191.body.isNone = false := by kernel_rfl
 have h3 : ¬ Tryz.f191.name = "runtime.NumGoroutine" := by simpa using h1
 have h4 : ¬ Tryz.f191.body = none := fun e => by rw [e] at h2; cases h2
 simp [callFunc, go_sem, Tryz.func191, h3, h4]

set_option maxHeartbeats 2000000 in
set_option maxRecDepth 100000 in
theorem bwrite1_any (k g a c : Nat) (Fd : List Nat) (d : Dk) (at_ : Int) (v : Value) (xs : List Int) (w : World) (ck : w.cell? ⟨k, 0, none⟩ = some (.pointer (some ⟨g, 0, none⟩))) (ca : w.cell? ⟨a, 0, none⟩ = some (.int .i64 at_)) (cc : w.cell? ⟨c, 0, none⟩ = some v)
 (h : (DiskT g d Fd).P w) (ha : I64 at_) (hv : Sl w v xs) (hby : By xs) (hg : xs.length ≤ 140737488355328) (hc : d.cache.length ≤ 1000000000) :
 Calls Tryz.prog 191 #[.pointer (some ⟨k, 0, none⟩), .pointer (some ⟨a, 0, none⟩), .pointer (some ⟨c, 0, none⟩)] w fun e w' => e = .returned (.int .u16 ((d.writeErr at_ (nats xs) : Nat) : Int)) ∧ Hid (Turns w Fd (DiskT g (d.write at_ (nats xs))) w') := by
 have WR := Lib.hid (dwrite_any g Fd d at_ v xs (w.drewN 1) ((DiskT g d Fd).stays _ _ [] h ((Chg.refl _ _).drewN 1) (fun _ _ => by simp)) ha (hv.chg ((Chg.refl [] w).drewN 1) (fun _ _ => by simp)) hby hg hc)
 obtain ⟨vo, vc, rfl⟩ := hv.slice
 have E : Hid (∀ w', Turns (w.drewN 1) Fd (DiskT g (d.write at_ (nats xs))) w' → Turns w Fd (DiskT g (d.write at_ (nats xs))) w') := fun w' t => Turns.later t ((Chg.refl _ _).drewN 1)
 obtain ⟨er, her⟩ : ∃ er, er = d.writeErr at_ (nats xs) := ⟨_, rfl⟩
 rw [← her] at WR ⊢
 clear h ha hv hby hg hc her
 go_enter Tryz.func191, Tryz.ntmps191
 go_wp2_with fail
 go_still_tail 6, (by kernel_rfl)
 change wpList _ _ _ _ _ (w.drewN 1)
 go_wp2_with fail
 refine WR.out.mono ?_
 rintro e w1 ⟨rfl, T⟩
 have T2 := Lib.hid (E.out _ T.out)
 clear WR E T
 go_wp2_with fail
 go_ret
 exact ⟨rfl, T2⟩

set_option maxHeartbeats 2000000 in
set_option maxRecDepth 100000 in
theorem bread1_any (k g a c : Nat) (Fd : List Nat) (d : Dk) (at_ : Int) (w : World) (ck : w.cell? ⟨k, 0, none⟩ = some (.pointer (some ⟨g, 0, none⟩))) (ca : w.cell? ⟨a, 0, none⟩ = some (.int .i64 at_)) (cc : w.cell? ⟨c, 0, none⟩ = some (.slice none 0 0)) (fc : w.frozen? ⟨c, 0, none⟩ = false)
 (h : (DiskT g d Fd).P w) (ha : I64 at_) (hkc : k ≠ c) (hac : a ≠ c) :
 Calls Tryz.prog 227 #[.pointer (some ⟨k, 0, none⟩), .pointer (some ⟨a, 0, none⟩), .pointer (some ⟨c, 0, none⟩)] w fun e w' => e = .returned (.int .u16 ((d.check at_ : Nat) : Int)) ∧
  ∃ u t, Hid (w'.cell? ⟨c, 0, none⟩ = some u) ∧ Hid (w'.ownsRow w.heap.size t 1 u (d.readVal at_).length ((ints (d.readVal at_)).map (Value.int .u8))) ∧ Hid (Chg [c] w w') := by
 have hcl := World.block_lt_of_cell? w _ cc
 have RD := Lib.hid (dread_any g Fd d at_ (w.drewN 1) ((DiskT g d Fd).stays _ _ [] h ((Chg.refl _ _).drewN 1) (fun _ _ => by simp)) ha)
 obtain ⟨er, her⟩ : ∃ er, er = d.check at_ := ⟨_, rfl⟩
 obtain ⟨rv, hrv⟩ : ∃ rv, rv = d.readVal at_ := ⟨_, rfl⟩
 rw [← her, ← hrv] at RD ⊢
 have K0 : Hid (∀ w', Chg [] (w.drewN 1) w' → w'.cell? ⟨c, 0, none⟩ = some (.slice none 0 0) ∧ w'.frozen? ⟨c, 0, none⟩ = false) := fun w' C => ⟨(C.cell (p := ⟨c, 0, none⟩) hcl (by simp)).trans cc, (C.frozen (p := ⟨c, 0, none⟩) hcl (by simp)).trans fc⟩
 have FIN : Hid (∀ w1 t u, Chg [] (w.drewN 1) w1 → w1.ownsRow (w.drewN 1).heap.size t 1 u rv.length ((ints rv).map (Value.int .u8)) → (w1.setCell ⟨c, 0, none⟩ u).cell? ⟨c, 0, none⟩ = some u ∧ (w1.setCell ⟨c, 0, none⟩ u).ownsRow w.heap.size t 1 u rv.length ((ints rv).map (Value.int .u8)) ∧ Chg [c] w (w1.setCell ⟨c, 0, none⟩ u)) := fun w1 t u C O => by
  have C2 : Chg [c] w1 (w1.setCell ⟨c, 0, none⟩ u) := (Chg.refl _ _).setCell (.inl (by simp)) _
  have hz := C.size
  refine ⟨?_, owns_chg O C2 (fun q hq hm => ?_), (((Chg.refl [c] w).drewN 1).trans (C.mono (by simp))).trans C2⟩
  ·have h1 := (K0.out _ C).1
   exact World.cell?_setCell_same _ _ _ h1
  ·have h1 := (O.lt q hq).1
   rw [List.mem_singleton.1 hm] at h1
   exact Nat.lt_irrefl _ (Nat.lt_of_lt_of_le hcl h1)
 have hkl := World.block_lt_of_cell? w _ ck
 have hal := World.block_lt_of_cell? w _ ca
 have KK : Hid (∀ w', Chg [] (w.drewN 1) w' → w'.cell? ⟨k, 0, none⟩ = some (.pointer (some ⟨g, 0, none⟩)) ∧ w'.cell? ⟨a, 0, none⟩ = some (.int .i64 at_)) := fun w' C => ⟨(C.cell (p := ⟨k, 0, none⟩) hkl (by simp)).trans ck, (C.cell (p := ⟨a, 0, none⟩) hal (by simp)).trans ca⟩
 have KK2 : Hid (∀ w' u, Chg [] (w.drewN 1) w' → (w'.setCell ⟨c, 0, none⟩ u).cell? ⟨k, 0, none⟩ = some (.pointer (some ⟨g, 0, none⟩)) ∧ (w'.setCell ⟨c, 0, none⟩ u).cell? ⟨a, 0, none⟩ = some (.int .i64 at_)) := fun w' u C => by
  obtain ⟨h1, h2⟩ := KK.out w' C
  exact ⟨(World.cell?_setCell_other w' ⟨c, 0, none⟩ ⟨k, 0, none⟩ u (fun e => hkc (Addr.mk.inj e).1.symm)).trans h1, (World.cell?_setCell_other w' ⟨c, 0, none⟩ ⟨a, 0, none⟩ u (fun e => hac (Addr.mk.inj e).1.symm)).trans h2⟩
 clear h ha her hrv
 go_enter Tryz.func227, Tryz.ntmps227
 go_wp2_with fail
 go_region_held3 (fun w' : World => w'.cell? ⟨k, 0, none⟩ = some (.pointer (some ⟨g, 0, none⟩)) ∧ w'.cell? ⟨a, 0, none⟩ = some (.int .i64 at_)) (first | exact ⟨ck, ca⟩ | exact KK.out _ C1.out | exact KK2.out _ _ C1.out) (first
  | (go_at_call 228; refine RD.out.mono ?_; rintro e w1 ⟨t, u, rfl, O, C⟩; have C1 : Hid (Chg [] (w.drewN 1) w1) := C; obtain ⟨uo, uc, rfl⟩ := owns_slice O.out; obtain ⟨c1, f1⟩ := K0.out _ C.out; have N1 := Lib.hid (FIN.out w1 t _ C.out O.out); clear O C))
 all_goals (obtain ⟨n1, n2, n3⟩ := N1.out; replace n1 := Lib.hid n1; replace n2 := Lib.hid n2; replace n3 := Lib.hid n3; clear N1 KK KK2 K0 RD FIN C1 c1 f1; go_wp2_with fail; go_ret; exact ⟨rfl, _, t, n1, n2, n3⟩)

theorem Sl.chgOff {w w' : World} {s : List Nat} {v : Value} {xs : List Int} (h : Sl w v xs) (c : Chg s w w') (hv : xs ≠ [] → ∀ b, v.ownBlock = some b → b ∉ s) : Sl w' v xs := by
 by_cases hx : xs = []
 ·subst hx
  obtain ⟨ao, cp, rfl⟩ := h.slice
  exact .inl ⟨rfl, _, _, rfl⟩
 ·exact h.chg c (hv hx)

section
variable (b : Nat) (F : List Nat) (y : Bay) (w : World) (h : (BayT b y F).P w)
include h

set_option maxHeartbeats 2000000 in
set_option maxRecDepth 100000 in
theorem bflush_any (s : Int) (hs : I64 s) (hl : y.Low 1000000000) : Calls Tryz.prog 165 #[.pointer (some ⟨b, 0, none⟩), .int .i64 s] w fun e w' => e = .returned (.int .u16 (y.flushErr s : Nat)) ∧ Hid (Turns w F (BayT b (y.flush s)) w') := by
 have OP := Lib.hid (operateF_any b F y w h s hs 3 (by decide) hl (fun n w' => n = ((y.flushErr s : Nat) : Int) ∧ Hid (Turns w F (BayT b (y.flush s)) w')) (fun k g wA h0 hA hc => by
  obtain ⟨g', Fd, hc', hdk, hC, hT, _⟩ := hA.disk
  obtain rfl : g = g' := by
   rw [hc] at hc'
   simpa using hc'
  refine (dflush_any g Fd _ wA hdk).mono ?_
  rintro e w' ⟨rfl, T⟩
  refine ⟨_, rfl, ?_, ?_⟩
  ·unfold Bay.flushErr
   rw [if_pos h0]
  ·unfold Bay.flush
   rw [if_pos h0]
   exact hT w' _ T.out))
 have E : Hid (y.startErr s ≠ 0 → y.flushErr s = y.startErr s ∧ y.flush s = y.start s 3) := fun h0 => by
  unfold Bay.flushErr Bay.flush
  rw [if_neg h0, if_neg h0]
  exact ⟨rfl, rfl⟩
 have hmf : ∀ (fn : Fn) (first cap : Array Value) (w : World), (Instr.makeFunc fn first cap).run Tryz.prog w = .ok (.func fn first cap) w := fun _ _ _ _ => rfl
 obtain ⟨fe, hfe⟩ : ∃ fe, fe = y.flushErr s := ⟨_, rfl⟩
 rw [← hfe] at OP E ⊢
 unfold flushV at OP
 clear h hs hl hfe
 go_enter Tryz.func165, Tryz.ntmps165
 go_wp2_with fail
 refine OP.out.mono ?_
 rintro e w1 (⟨h0, rfl, T⟩ | ⟨h0, n, rfl, rfl, T⟩)
 ·obtain ⟨e1, e2⟩ := E.out h0
  rw [← e1]
  rw [← e2] at T
  clear OP E h0 e1 e2
  go_wp2_with fail
  go_ret
  exact ⟨rfl, T⟩
 ·clear OP E h0
  go_wp2_with fail
  go_ret
  exact ⟨rfl, T⟩


set_option maxHeartbeats 2000000 in
set_option maxRecDepth 100000 in
theorem bwrite_any (s at_ : Int) (hs : I64 s) (ha : I64 at_) (v : Value) (xs : List Int) (hv : Sl w v xs) (hby : By xs) (hg : xs.length ≤ 140737488355328) (hold : xs ≠ [] → ∀ k, v.ownBlock = some k → k ∉ F ∧ k < w.heap.size) (hl : y.Low 1000000000) :
 Calls Tryz.prog 128 #[.pointer (some ⟨b, 0, none⟩), .int .i64 s, .int .i64 at_, v] w fun e w' => e = .returned (.int .u16 (y.writeErr s at_ (nats xs) : Nat)) ∧ Hid (Turns w F (BayT b (y.write s at_ (nats xs))) w') := by
 have h' : BayIn w b F y := h
 obtain ⟨vo, vc, rfl⟩ := hv.slice
 obtain ⟨wB, hwB⟩ : ∃ wB, wB = (w.alloc (.cells #[.int .i64 at_] 3)).alloc (.cells #[.slice vo xs.length vc] 65) := ⟨_, rfl⟩
 have CB : Chg [] w wB := by rw [hwB]; exact ((Chg.refl _ _).alloc _).alloc _
 have BA : Blk wB w.heap.size 3 [.int .i64 at_] := by rw [hwB]; exact (Blk.made w [.int .i64 at_] _).alloc _
 have BC : Blk wB (w.heap.size + 1) 65 [.slice vo xs.length vc] := by
  rw [hwB]
  have := Blk.made (w.alloc (.cells #[.int .i64 at_] 3)) [.slice vo xs.length vc] 65
  rw [show (w.alloc (.cells #[.int .i64 at_] 3)).heap.size = w.heap.size + 1 from by simp] at this
  exact this
 have hB : (BayT b y F).P wB := (BayT b y F).stays _ _ [] h CB (fun _ _ => by simp)
 have hnA : w.heap.size ∉ F := fun hm => Nat.lt_irrefl _ (h'.lt _ hm)
 have hnC : w.heap.size + 1 ∉ F := fun hm => by have := h'.lt _ hm; omega
 have OP := Lib.hid (operate_any b F y wB hB s hs 2 (by decide) hl 191 #[.pointer (some ⟨w.heap.size, 0, none⟩), .pointer (some ⟨w.heap.size + 1, 0, none⟩)] enters_bwrite (fun n w' => n = ((y.writeErr s at_ (nats xs) : Nat) : Int) ∧ Hid (Turns w F (BayT b (y.write s at_ (nats xs))) w')) (fun k wA h0 hA => by
  obtain ⟨g, Fd, hc, hdk, hC, hT, _⟩ := hA.disk
  show Calls _ _ #[_, _, _] wA _
  refine (bwrite1_any k g _ _ Fd _ at_ (.slice vo xs.length vc) xs wA hc ((BA.chg hC hnA).cell (j := 0) rfl) ((BC.chg hC hnC).cell (j := 0) rfl) hdk ha ((hv.chgNil CB).chgOff hC (fun hx k hk => (hold hx k hk).1)) hby hg (Bay.asked_low h0 hl)).mono ?_
  rintro e w' ⟨rfl, T⟩
  refine ⟨_, rfl, ?_, ?_⟩
  ·unfold Bay.writeErr
   rw [if_pos h0]
  ·unfold Bay.write
   rw [if_pos h0]
   exact Turns.later (hT w' _ T.out) CB))
 have E : Hid (∀ w', y.startErr s ≠ 0 → Turns wB F (BayT b (y.start s 2)) w' → y.startErr s = y.writeErr s at_ (nats xs) ∧ Turns w F (BayT b (y.write s at_ (nats xs))) w') := fun w' h0 t => by
  unfold Bay.writeErr Bay.write
  rw [if_neg h0, if_neg h0]
  exact ⟨rfl, Turns.later t CB⟩
 have hmf : ∀ (fn : Fn) (first cap : Array Value) (w : World), (Instr.makeFunc fn first cap).run Tryz.prog w = .ok (.func fn first cap) w := fun _ _ _ _ => rfl
 obtain ⟨fe, hfe⟩ : ∃ fe, fe = y.writeErr s at_ (nats xs) := ⟨_, rfl⟩
 rw [← hfe] at OP E ⊢
 rw [hwB] at OP E
 clear h h' hs hl hfe hwB CB BA BC hB hnA hnC hv hby hold
 go_enter Tryz.func128, Tryz.ntmps128
 go_wp2_with fail
 refine OP.out.mono ?_
 rintro e w1 (⟨h0, rfl, T⟩ | ⟨h0, n, rfl, rfl, T⟩)
 ·obtain ⟨e1, e2⟩ := E.out _ h0 T.out
  rw [e1]
  replace e2 := Lib.hid e2
  clear OP E h0 e1 T
  go_wp2_with fail
  go_ret
  exact ⟨rfl, e2⟩
 ·clear OP E h0
  go_wp2_with fail
  go_ret
  exact ⟨rfl, T⟩

set_option maxHeartbeats 2000000 in
set_option maxRecDepth 100000 in
theorem bread_any (s at_ : Int) (hs : I64 s) (ha : I64 at_) (hl : y.Low 1000000000) : Calls Tryz.prog 172 #[.pointer (some ⟨b, 0, none⟩), .int .i64 s, .int .i64 at_] w fun e w' => ∃ u, e = .returned (.tuple #[u, .int .u16 (y.readErr s at_ : Nat)]) ∧ Hid (TurnsGives w F (BayT b (y.read s)) u (y.readVal s at_) w') := by
 have h' : BayIn w b F y := h
 obtain ⟨wB, hwB⟩ : ∃ wB, wB = (w.alloc (.cells #[.int .i64 at_] 3)).alloc (.cells #[.slice none 0 0] 65) := ⟨_, rfl⟩
 have CB : Chg [] w wB := by rw [hwB]; exact ((Chg.refl _ _).alloc _).alloc _
 have BA : Blk wB w.heap.size 3 [.int .i64 at_] := by rw [hwB]; exact (Blk.made w [.int .i64 at_] _).alloc _
 have BC : Blk wB (w.heap.size + 1) 65 [.slice none 0 0] := by
  rw [hwB]
  have := Blk.made (w.alloc (.cells #[.int .i64 at_] 3)) [.slice none 0 0] 65
  rw [show (w.alloc (.cells #[.int .i64 at_] 3)).heap.size = w.heap.size + 1 from by simp] at this
  exact this
 have hB : (BayT b y F).P wB := (BayT b y F).stays _ _ [] h CB (fun _ _ => by simp)
 have hnA : w.heap.size ∉ F := fun hm => Nat.lt_irrefl _ (h'.lt _ hm)
 have hnC : w.heap.size + 1 ∉ F := fun hm => by have := h'.lt _ hm; omega
 have hzB := CB.size
 have hzC := BC.lt
 have OP := Lib.hid (operate_any b F y wB hB s hs 1 (by decide) hl 227 #[.pointer (some ⟨w.heap.size, 0, none⟩), .pointer (some ⟨w.heap.size + 1, 0, none⟩)] enters_bread (fun n w' => n = ((y.readErr s at_ : Nat) : Int) ∧ ∃ uo m uc, m = (y.readVal s at_).length ∧ Hid (w'.cell? ⟨w.heap.size + 1, 0, none⟩ = some (.slice uo m uc)) ∧ Hid (TurnsGives w F (BayT b (y.read s)) (.slice uo m uc) (y.readVal s at_) w')) (fun k wA h0 hA => by
  obtain ⟨g, Fd, hc, hdk, hC, _, F1, hF1, hF2⟩ := hA.disk
  have hF1' : BayIn wA b F1 _ := hF1
  have hkF : k ≠ w.heap.size + 1 := fun e => by
   obtain ⟨i, F1, bt, vs, ps, Fs, _, hlt, _, r, hp, hdev, hi, hF, hC⟩ := hA.it
   have hk : k ∈ F1 := by
    have hd := r.dev i 0
    rw [← Bay.dev_place hi] at hd
    have hdev2 := hdev
    rw [show s = (i : Int) from by assumption] at hd hdev2
    rw [hdev2] at hd
    obtain ⟨k', hk', hk2⟩ := hd.isSome rfl
    obtain rfl : k = k' := by rw [hp] at hk'; exact Option.some.inj hk'
    obtain ⟨_, Fd, hFd, _⟩ := hk2.rep
    exact r.inF.2.2 i 0 k (by rw [hFd]; exact List.mem_cons_self)
   rcases hF k hk with q | q
   ·have := h'.lt k q; omega
   ·omega
  show Calls _ _ #[_, _, _] wA _
  refine (bread1_any k g _ _ Fd _ at_ wA hc ((BA.chg hC hnA).cell (j := 0) rfl) ((BC.chg hC hnC).cell (j := 0) rfl) ((BC.chg hC hnC).free 0) hdk ha hkF (by omega)).mono ?_
  rintro e w' ⟨rfl, u, t, n1, n2, n3⟩
  have e1 : y.readVal s at_ = (y.asked s).disk.readVal at_ := by unfold Bay.readVal; rw [if_pos h0]
  have e2 : y.readErr s at_ = (y.asked s).disk.check at_ := by unfold Bay.readErr; rw [if_pos h0]
  have e3 : y.read s = (y.counted 1).setIn s (y.asked s) := Bay.start_ok h0 1
  obtain ⟨uo, uc, rfl⟩ := owns_slice n2.out
  have hcF1 : w.heap.size + 1 ∉ F1 := fun hm => by
   rcases hF2 _ hm with q | q
   ·exact hnC q
   ·omega
  have hzA := hC.size
  refine ⟨_, rfl, by rw [e2], uo, _, uc, by rw [e1], n1, t, F1, ?_, fun k hk => ?_, ?_, ?_, fun k hk hm => ?_⟩
  ·rw [e3]
   exact (BayT b _ F1).stays _ _ _ hF1 n3.out (fun j hj hm => hcF1 (by rw [← List.mem_singleton.1 hm]; exact hj))
  ·rcases hF2 k hk with q | q
   ·exact .inl q
   ·exact .inr (by omega)
  ·exact ((CB.mono (by simp)).trans hC).fresh n3.out (fun k hk => .inr (by rw [List.mem_singleton.1 hk]; omega))
  ·rw [e1]
   exact ownsRow_base n2.out (by omega)
  ·have h1 := (n2.out.lt k hk).1
   have h2 := hF1'.lt k hm
   omega))
 have E : Hid (∀ w', y.startErr s ≠ 0 → Turns wB F (BayT b (y.start s 1)) w' → y.startErr s = y.readErr s at_ ∧ w'.cell? ⟨w.heap.size + 1, 0, none⟩ = some (.slice none 0 0) ∧ TurnsGives w F (BayT b (y.read s)) (.slice none 0 0) (y.readVal s at_) w') := fun w' h0 t => by
  have e1 : y.readVal s at_ = [] := by unfold Bay.readVal; rw [if_neg h0]
  unfold Bay.readErr
  rw [if_neg h0, e1]
  have t2 := Turns.later t CB
  obtain ⟨F', h1, h2, h3⟩ := t
  refine ⟨rfl, (h3.cell (p := ⟨w.heap.size + 1, 0, none⟩) hzC hnC).trans (BC.cell (j := 0) rfl), ?_⟩
  obtain ⟨F', h1, h2, h3⟩ := t2
  exact ⟨0, F', h1, h2, h3, World.ownsRow_nil _ _ _ _, fun k hk => by cases hk⟩
 have hmf : ∀ (fn : Fn) (first cap : Array Value) (w : World), (Instr.makeFunc fn first cap).run Tryz.prog w = .ok (.func fn first cap) w := fun _ _ _ _ => rfl
 obtain ⟨fe, hfe⟩ : ∃ fe, fe = y.readErr s at_ := ⟨_, rfl⟩
 obtain ⟨rv, hrv⟩ : ∃ rv, rv = y.readVal s at_ := ⟨_, rfl⟩
 rw [← hfe, ← hrv] at OP E ⊢
 rw [hwB] at OP E
 clear h h' hs hl hfe hwB CB BA BC hB hnA hnC hrv hzB hzC
 go_enter Tryz.func172, Tryz.ntmps172
 go_wp2_with fail
 refine OP.out.mono ?_
 rintro e w1 (⟨h0, rfl, T⟩ | ⟨h0, n, rfl, rfl, uo, m, uc, hm, c1, T⟩)
 ·obtain ⟨e1, c1, e2⟩ := E.out _ h0 T.out
  rw [e1]
  replace e2 := Lib.hid e2
  clear OP E h0 e1 T
  go_wp2_with fail
  go_ret2
  exact ⟨_, rfl, e2⟩
 ·have c2 := c1.out
  clear OP E h0 c1 hm
  go_wp2_with fail
  go_ret2
  exact ⟨_, rfl, T⟩

end
end Go.Proofs.YtkafkdlgflkjgaaGreat

/-
  The program's bay: New. By an AI agent.
-/
namespace Go.Proofs.YtkafkdlgflkjgaaGreat
open Go.RowKit Go.Maps

/-- A new bay, or none. -/
def BNewed (w : World) (sizes : List Int) (e : Ending) (w' : World) : Prop :=
 (Bay.newErr sizes ≠ 0 ∧ e = .returned (.tuple #[.pointer none, .int .u16 (Bay.newErr sizes : Nat)]) ∧ Hid (Chg [] w w')) ∨
 (Bay.newErr sizes = 0 ∧ ∃ b F, e = .returned (.tuple #[.pointer (some ⟨b, 0, none⟩), .int .u16 0]) ∧ Hid ((BayT b (Bay.new sizes) F).P w') ∧ Hid (∀ k ∈ F, w.heap.size ≤ k) ∧ Hid (Chg [] w w'))

namespace Bay

def emptySlot : Slot := ⟨none, none, none⟩

/-- The first j slots of a new bay. -/
def newPart (sizes : List Int) (j : Nat) : Bay := ⟨(sizes.take j).map slotOf ++ List.replicate (sizes.length - j) emptySlot, false, none, 0, 0, 0⟩

theorem newPart_len (sizes : List Int) {j : Nat} (h : j ≤ sizes.length) : (newPart sizes j).slots.length = sizes.length := by
 simp [newPart]
 omega

theorem newPart_zero (sizes : List Int) : newPart sizes 0 = ⟨List.replicate sizes.length emptySlot, false, none, 0, 0, 0⟩ := by simp [newPart]

theorem newPart_all (sizes : List Int) : newPart sizes sizes.length = Bay.new sizes := by simp [newPart, Bay.new]

theorem newPart_at (sizes : List Int) {j : Nat} (h : j < sizes.length) : (newPart sizes j).slots[j]? = some emptySlot := by
 have : ((sizes.take j).map slotOf).length = j := by simp; omega
 unfold newPart
 rw [List.getElem?_append_right (by omega), this, Nat.sub_self, List.getElem?_replicate]
 simp [show 0 < sizes.length - j by omega]

theorem newPart_next (sizes : List Int) {j : Nat} {n : Int} (h : sizes[j]? = some n) : newPart sizes (j + 1) = (newPart sizes j).turn j (fun _ => slotOf n) := by
 have hj := (List.getElem?_eq_some_iff.1 h).1
 have hl : ((sizes.take j).map slotOf).length = j := by simp; omega
 have e : (newPart sizes j).slots.modify j (fun _ => slotOf n) = (newPart sizes (j + 1)).slots := by
  have hl2 : ((sizes.take (j + 1)).map slotOf).length = j + 1 := by simp; omega
  apply List.ext_getElem?
  intro m
  rw [List.getElem?_modify]
  by_cases hm : j = m
  ·subst hm
   rw [newPart_at sizes hj]
   unfold newPart
   rw [List.getElem?_append_left (by omega), List.getElem?_map, List.getElem?_take_of_lt (by omega), h]
   simp
  ·simp only [hm, if_false]
   unfold newPart
   by_cases h1 : m < j
   ·rw [List.getElem?_append_left (by omega), List.getElem?_append_left (by omega), List.getElem?_map, List.getElem?_map, List.getElem?_take_of_lt h1, List.getElem?_take_of_lt (by omega)]
    simp
   ·rw [List.getElem?_append_right (by omega), List.getElem?_append_right (by omega), hl, hl2, List.getElem?_replicate, List.getElem?_replicate]
    by_cases h2 : m < sizes.length
    ·rw [if_pos (by omega), if_pos (by omega)]
     simp
    ·rw [if_neg (by omega), if_neg (by omega)]
     simp
 unfold turn
 rw [Int.toNat_natCast, e]
 rfl

theorem slotOf_zero : slotOf 0 = emptySlot := rfl

theorem newPart_skip (sizes : List Int) {j : Nat} (h : sizes[j]? = some 0) : newPart sizes (j + 1) = newPart sizes j := by
 rw [newPart_next sizes h, slotOf_zero]
 have := newPart_at sizes (List.getElem?_eq_some_iff.1 h).1
 unfold turn
 rw [Int.toNat_natCast]
 have e : (newPart sizes j).slots.modify j (fun _ => emptySlot) = (newPart sizes j).slots := by
  apply List.ext_getElem?
  intro m
  rw [List.getElem?_modify]
  by_cases hm : j = m
  ·subst hm
   rw [this]
   simp
  ·simp [hm]
 rw [e]

theorem newPart_lay (sizes : List Int) {j : Nat} {n : Int} (h : sizes[j]? = some n) (hn : n ≠ 0) : newPart sizes (j + 1) = (newPart sizes j).setIn j ⟨Dk.new n.toNat, none⟩ := by
 rw [newPart_next sizes h]
 unfold setIn
 rw [turn_const (fun x => { x with inn := some ⟨Dk.new n.toNat, none⟩ }) (newPart_at sizes (List.getElem?_eq_some_iff.1 h).1)]
 unfold slotOf
 rw [if_neg hn]
 rfl

theorem newErr_bad {sizes : List Int} (h1 : 1 ≤ sizes.length) (h2 : sizes.length ≤ 17) {n : Int} (hm : n ∈ sizes) (hn : n < 0 ∨ 8192 < n) : newErr sizes = 40 := by
 unfold newErr
 rw [if_neg (by omega), if_pos (List.any_eq_true.2 ⟨n, hm, decide_eq_true hn⟩)]

theorem newErr_good {sizes : List Int} (h1 : 1 ≤ sizes.length) (h2 : sizes.length ≤ 17) (h : ∀ n ∈ sizes, 0 ≤ n ∧ n ≤ 8192) : newErr sizes = 0 := by
 unfold newErr
 rw [if_neg (by omega), if_neg (fun hc => ?_)]
 obtain ⟨n, hm, hn⟩ := List.any_eq_true.1 hc
 have := of_decide_eq_true hn
 have := h n hm
 omega

theorem newErr_many {sizes : List Int} (h : sizes.length < 1 ∨ 17 < sizes.length) : newErr sizes = 1 := by
 unfold newErr
 rw [if_pos h]

theorem newPart_fit {sizes : List Int} (h1 : 1 ≤ sizes.length) (h2 : sizes.length ≤ 17) : (newPart sizes 0).Fit := by
 rw [newPart_zero]
 refine ⟨by simp; omega, fun x hx d hd => ?_, (fun n hn => by cases hn), fun x hx d hd => ?_⟩
 ·rw [(List.mem_replicate.1 hx).2] at hd
  rcases hd with hd | hd | hd <;> cases hd
 ·rw [(List.mem_replicate.1 hx).2] at hd
  rcases hd with hd | hd <;> cases hd

end Bay

theorem info_tray : (Tryz.prog.info? 146).map (fun i => (i.zero, i.size, i.bytes)) = some (some (.agg #[.pointer none, .pointer none, .pointer none]), 3, 24) := by kernel_rfl

theorem made_trays (n : Nat) : (madeCells (Value.agg #[.pointer none, .pointer none, .pointer none]).cells (n * 3)).toList = List.replicate (n * 3) (Value.pointer none) := by
 apply List.ext_getElem?
 intro j
 by_cases hj : j < n * 3
 ·have hm : j % 3 < 3 := Nat.mod_lt _ (by decide)
  have : j % 3 = 0 ∨ j % 3 = 1 ∨ j % 3 = 2 := by omega
  rcases this with h | h | h <;> simp [madeCells, Value.cells, hj, h]
 ·simp [madeCells, Value.cells, hj]

set_option maxHeartbeats 2000000 in
set_option maxRecDepth 100000 in
theorem bnew_any (v : Value) (sizes : List Int) (w : World) (hv : RdV w v (sizes.map (Value.int .i64))) (hi : Is sizes) (hl : sizes.length ≤ 140737488355328) : Calls Tryz.prog 27 #[v] w (BNewed w sizes) := by
 obtain ⟨vo, vc, rfl⟩ := hv.slice
 rw [List.length_map] at hv ⊢
 by_cases hlo : sizes.length < 1
 ·have e := Lib.hid (Bay.newErr_many (.inl hlo))
  have h1 : (sizes.length : Int) < 1 := by omega
  have P : Hid (∀ e0, e0 = .returned (.tuple #[.pointer none, .int .u16 1]) → BNewed w sizes e0 w) := fun e0 he => .inl ⟨by rw [e.out]; decide, by rw [e.out]; exact he, Chg.refl _ _⟩
  clear hv hi e
  go_enter Tryz.func27, Tryz.ntmps27
  go_wp2_with fail
  go_ret2
  exact P.out _ rfl
 have h1 : ¬ (sizes.length : Int) < 1 := by omega
 by_cases hhi : 17 < sizes.length
 ·have e := Lib.hid (Bay.newErr_many (.inr hhi))
  have h2 : (17 : Int) < sizes.length := by omega
  have P : Hid (∀ e0, e0 = .returned (.tuple #[.pointer none, .int .u16 1]) → BNewed w sizes e0 w) := fun e0 he => .inl ⟨by rw [e.out]; decide, by rw [e.out]; exact he, Chg.refl _ _⟩
  clear hv hi e
  go_enter Tryz.func27, Tryz.ntmps27
  go_wp2_with fail
  go_ret2
  exact P.out _ rfl
 have h2 : ¬ (17 : Int) < sizes.length := by omega
 obtain ⟨n, hn⟩ : ∃ n, n = sizes.length := ⟨_, rfl⟩
 have hn1 : 1 ≤ n := by omega
 have hn2 : n ≤ 17 := by omega
 have FIT := Lib.hid (Bay.newPart_fit (sizes := sizes) (by omega) (by omega))
 have BAD : Hid (∀ z ∈ sizes, (z < 0 ∨ 8192 < z) → Bay.newErr sizes = 40) := fun z hm hz => Bay.newErr_bad (by omega) (by omega) hm hz
 have GOOD : Hid ((∀ z ∈ sizes, 0 ≤ z ∧ z ≤ 8192) → Bay.newErr sizes = 0) := fun h => Bay.newErr_good (by omega) (by omega) h
 have HV := Lib.hid hv
 have HI := Lib.hid hi
 rw [← hn] at h1 h2 ⊢
 replace hn := Lib.hid hn
 obtain ⟨i0, ki, kz0, kz1, kz2⟩ := info_parts info_tray
 replace ki := Lib.hid ki
 replace kz0 := Lib.hid kz0
 replace kz1 := Lib.hid kz1
 replace kz2 := Lib.hid kz2
 clear hv hi hl hlo hhi
 go_enter Tryz.func27, Tryz.ntmps27
 go_wp2_with (with_reducible refine wpList_make_full _ rfl (.tmp 17) (.tmp 17) 139 rfl w.heap.size 146 i0 _ 3 Tryz.underlying139 ki.out kz0.out kz1.out .i64 .i64 (n : Int) (n : Int) n rfl rfl rfl rfl (by rw [kz2.out]; omega) (by unfold maxLen; omega) (Nat.le_refl _) ?_; intro w1 ow gr; obtain ⟨B0, hb0⟩ := Blk.ownedN ow; rw [made_trays] at B0; have C1 := Lib.hid ((Chg.refl [] w).grown gr (fun k hk => by cases hk)); replace B0 := Lib.hid B0; clear ow gr hb0)
 have BB := Blk.made w1 [.slice (some ⟨w.heap.size, 0, none⟩) n n, .bool false, .bool false, .int .i64 0, .int .i64 0, .int .i64 0, .int .i64 0] 143
 have CB : Hid (Chg [] w (w1.alloc (.cells #[.slice (some ⟨w.heap.size, 0, none⟩) n n, .bool false, .bool false, .int .i64 0, .int .i64 0, .int .i64 0, .int .i64 0] 143))) := C1.out.alloc _
 have hsz := C1.out.size
 have hlt0 := B0.out.lt
 obtain ⟨b, hb⟩ : ∃ b, b = w1.heap.size := ⟨_, rfl⟩
 have H0 : Hid ((BayT b (Bay.newPart sizes 0) [b, w.heap.size]).P (w1.alloc (.cells #[.slice (some ⟨w.heap.size, 0, none⟩) n n, .bool false, .bool false, .int .i64 0, .int .i64 0, .int .i64 0, .int .i64 0] 143))) := by
  have hln : (Bay.newPart sizes 0).slots.length = n := by rw [Bay.newPart_len sizes (Nat.zero_le _), hn.out]
  have hz : (w1.alloc (.cells #[.slice (some ⟨w.heap.size, 0, none⟩) n n, .bool false, .bool false, .int .i64 0, .int .i64 0, .int .i64 0, .int .i64 0] 143)).heap.size = w1.heap.size + 1 := by simp
  refine ⟨fun k hk => ?_, FIT.out, w.heap.size, List.replicate (n * 3) (.pointer none), fun _ _ => none, fun _ _ => [], ⟨?_, B0.out.alloc _, by rw [hln]; simp, fun i j hi hj => ?_, fun i j => .inl ⟨?_, rfl, rfl⟩, (fun _ _ _ _ _ k hk => by cases hk), (fun _ _ k hk => by cases hk), (by omega), (by simp), (by simp), (fun _ _ k hk => by cases hk)⟩⟩
  ·rw [hz]
   rcases List.mem_cons.1 hk with rfl | hk
   ·omega
   ·rw [List.mem_singleton.1 hk]; omega
  ·rw [hln, Bay.newPart_zero, hb]
   exact BB
  ·rw [hln] at hi
   rw [List.getElem?_replicate, if_pos (by omega)]
   rfl
  ·unfold Bay.place
   rw [Bay.newPart_zero]
   simp only [List.getElem?_replicate]
   split
   ·match j with
    | 0 => rfl
    | 1 => rfl
    | 2 => rfl
    | _ + 3 => rfl
   ·rfl
 have HF0 : Hid (∀ k ∈ [b, w.heap.size], w.heap.size ≤ k) := fun k hk => by
  rcases List.mem_cons.1 hk with rfl | hk
  ·omega
  ·rw [List.mem_singleton.1 hk]; exact Nat.le_refl _
 rw [← hb]
 clear BB hsz hlt0 B0 C1
 generalize w1.alloc (.cells #[.slice (some ⟨w.heap.size, 0, none⟩) n n, .bool false, .bool false, .int .i64 0, .int .i64 0, .int .i64 0, .int .i64 0] 143) = w2 at *
 clear hb
 go_wp2_with fail
 go_loopw [23] (fun i wr => ∃ (j : Nat) (F1 : List Nat), j ≤ n ∧ i = .int .i64 (j : Int) ∧ Hid ((BayT b (Bay.newPart sizes j) F1).P wr) ∧ Hid (∀ k ∈ F1, w.heap.size ≤ k) ∧ Hid (Chg [] w wr) ∧ Hid (∀ a z, a < j → sizes[a]? = some z → 0 ≤ z ∧ z ≤ 8192)) (fun i _ => n - (intOf i).toNat)
 case atStart => exact ⟨0, [b, w.heap.size], Nat.zero_le _, rfl, H0, HF0, CB, (fun a z h => absurd h (Nat.not_lt_zero a))⟩
 case round =>
  obtain ⟨j, F1, hj, rfl, T, HF, C, OKS⟩ := hrel
  clear H0 HF0 CB
  have hj0 : (0 : Int) ≤ j := Int.natCast_nonneg _
  by_cases hlt : j < n
  ·have hj1 : (j : Int) < n := by omega
   have hjs : j < sizes.length := by have := hn.out; omega
   obtain ⟨z, hz⟩ : ∃ z, sizes[j]? = some z := ⟨_, List.getElem?_eq_getElem hjs⟩
   obtain ⟨vb, vf, rfl, cz⟩ := (HV.out.chgNil C.out).at (k := j) (u := .int .i64 z) (by rw [List.getElem?_map, hz]; rfl)
   have hzI : I64 z := HI.out z (List.mem_of_getElem? hz)
   have hz1 := hzI.1
   have hz2 := hzI.2
   by_cases hz0 : z = 0
   ·subst hz0
    have T2 : Hid ((BayT b (Bay.newPart sizes (j + 1)) F1).P wr) := by rw [Bay.newPart_skip sizes hz]; exact T.out
    have OK2 : Hid (∀ a z, a < j + 1 → sizes[a]? = some z → 0 ≤ z ∧ z ≤ 8192) := fun a q ha hq => by
     by_cases h : a = j
     ·subst h
      rw [hz] at hq
      obtain rfl : (0 : Int) = q := by simpa using hq
      decide
     ·exact OKS.out a q (by omega) hq
    clear T OKS hz hzI hjs
    go_wp2_with fail
    exact ⟨⟨j + 1, F1, by omega, by go_num, T2, HF, C, OK2⟩, by simp [intOf]; omega⟩
   ·have hz3 : ¬ z = 0 := hz0
    have TI : BayIn wr b F1 (Bay.newPart sizes j) := T.out
    obtain ⟨bt2, vs2, ps2, Fs2, r2⟩ := TI.rep
    have c0 : wr.cell? ⟨b, 0, none⟩ = some (.slice (some ⟨bt2, 0, none⟩) n n) := by
     have := r2.blk.cell (j := 0) rfl
     rw [Bay.newPart_len sizes (by omega), ← hn.out] at this
     exact this
    have hx := Bay.newPart_at sizes hjs
    have CA : Chg [] wr ((wr.drewN 1).alloc (.cells #[.int .i64 z] 3)) := ((Chg.refl _ _).drewN 1).alloc _
    have BC := Blk.made (wr.drewN 1) [.int .i64 z] 3
    have BL := Lib.hid (blank_any z (wr.drewN 1))
    have IN := Lib.hid (insert_any (w := (wr.drewN 1).alloc (.cells #[.int .i64 z] 3)) (fun k hk => Nat.lt_of_lt_of_le (TI.lt k hk) CA.size) TI.fit (r2.chg CA (fun _ _ => by simp)) hx 157 #[.pointer (some ⟨(wr.drewN 1).heap.size, 0, none⟩)] (1 ≤ z ∧ z ≤ 8192) (Dk.new z.toNat) enters_blank (fun w' c => blank1_any z hzI (wr.drewN 1).heap.size w' ((c.cell (p := ⟨(wr.drewN 1).heap.size, 0, none⟩) BC.lt (by simp)).trans (BC.cell (j := 0) rfl))))
    have NX := Lib.hid (Bay.newPart_lay sizes hz hz0)
    have E2 : Hid (∀ w', Turns ((wr.drewN 1).alloc (.cells #[.int .i64 z] 3)) F1 (BayT b ((Bay.newPart sizes j).setIn j ⟨Dk.new z.toNat, none⟩)) w' → ∃ F2, (BayT b (Bay.newPart sizes (j + 1)) F2).P w' ∧ (∀ k ∈ F2, w.heap.size ≤ k) ∧ Chg [] w w') := fun w' t => by
     rw [← NX.out] at t
     obtain ⟨F2, t1, t2, t3⟩ := t.later CA
     have hsz := C.out.size
     refine ⟨F2, t1, fun k hk => ?_, C.out.fresh t3 (fun k hk => .inr (HF.out k hk))⟩
     rcases t2 k hk with q | q
     ·exact HF.out k q
     ·omega
    have E1 : Hid (∀ w', Turns ((wr.drewN 1).alloc (.cells #[.int .i64 z] 3)) F1 (BayT b (Bay.newPart sizes j)) w' → Chg [] w w') := fun w' t => by
     obtain ⟨F2, t1, t2, t3⟩ := t.later CA
     exact C.out.fresh t3 (fun k hk => .inr (HF.out k hk))
    have K0 : Hid (∀ w', Chg [] wr w' → w'.cell? ⟨b, 0, none⟩ = some (.slice (some ⟨bt2, 0, none⟩) n n)) := fun w' c => (c.cell (p := ⟨b, 0, none⟩) r2.blk.lt (by simp)).trans c0
    have CAh := Lib.hid CA
    have hzm : Hid (z ∈ sizes) := List.mem_of_getElem? hz
    have OK2 : Hid ((1 ≤ z ∧ z ≤ 8192) → ∀ a q, a < j + 1 → sizes[a]? = some q → 0 ≤ q ∧ q ≤ 8192) := fun hzz a q ha hq => by
     by_cases h : a = j
     ·subst h
      rw [hz] at hq
      obtain rfl : z = q := by simpa using hq
      omega
     ·exact OKS.out a q (by omega) hq
    have hxf : Bay.emptySlot.full = false := rfl
    have hbA : b < ((wr.drewN 1).alloc (.cells #[.int .i64 z] 3)).heap.size ∧ b ∉ [bt2] := ⟨Nat.lt_of_lt_of_le r2.blk.lt CA.size, by simpa using r2.ne⟩
    clear CA BC hx TI r2 T OKS hz hjs NX
    by_cases hzz : 1 ≤ z ∧ z ≤ 8192
    ·have IN2 : Hid (Calls Tryz.prog 93 #[.pointer (some ⟨bt2, j * 3, none⟩), blankV (wr.drewN 1).heap.size] ((wr.drewN 1).alloc (.cells #[.int .i64 z] 3)) fun e w' => e = .returned (.int .u16 0) ∧ Hid (∃ F2, (BayT b (Bay.newPart sizes (j + 1)) F2).P w' ∧ (∀ k ∈ F2, w.heap.size ≤ k) ∧ Chg [] w w') ∧ Hid (w'.cell? ⟨b, 0, none⟩ = some (.slice (some ⟨bt2, 0, none⟩) n n))) := by
      refine IN.out.mono ?_
      rintro e w' ⟨cc, (⟨h, _⟩ | ⟨_, h, _⟩ | ⟨_, _, rfl, t⟩)⟩
      ·rw [hxf] at h; cases h
      ·exact absurd hzz h
      ·exact ⟨rfl, E2.out w' t.out, (cc.out.cell (p := ⟨b, 0, none⟩) hbA.1 hbA.2).trans (K0.out _ CAh.out)⟩
     have OK3 := Lib.hid (OK2.out hzz)
     clear IN E1 E2 OK2 hxf
     unfold blankV at IN2
     go_wp2_with fail
     go_region_held3 (fun w' : World => w'.cell? ⟨b, 0, none⟩ = some (.slice (some ⟨bt2, 0, none⟩) n n)) (first | exact c0 | exact K0.out _ ((Chg.refl _ _).drewN 1) | exact K0.out _ CBL.out | exact DN.out) (first
      | (go_at_call 102; refine BL.out.mono ?_; rintro e wb ⟨rfl, hwb⟩; have CBL : Hid (Chg [] wr wb) := (by rw [hwb]; exact CAh.out); rw [← hwb] at IN2; clear hwb BL)
      | (go_at_call 93; refine IN2.out.mono ?_; rintro e wc ⟨rfl, hE, DN⟩))
     obtain ⟨F2, t1, t2, t3⟩ := hE.out
     replace t1 := Lib.hid t1
     replace t2 := Lib.hid t2
     replace t3 := Lib.hid t3
     clear hE IN2 DN K0 CAh CBL HF C c0 hbA
     go_wp2_with fail
     exact ⟨⟨j + 1, F2, by omega, by go_num, t1, t2, t3, OK3⟩, by simp [intOf]; omega⟩
    ·have IN2 : Hid (Calls Tryz.prog 93 #[.pointer (some ⟨bt2, j * 3, none⟩), blankV (wr.drewN 1).heap.size] ((wr.drewN 1).alloc (.cells #[.int .i64 z] 3)) fun e w' => e = .returned (.int .u16 40) ∧ Hid (Chg [] w w') ∧ Hid (w'.cell? ⟨b, 0, none⟩ = some (.slice (some ⟨bt2, 0, none⟩) n n))) := by
      refine IN.out.mono ?_
      rintro e w' ⟨cc, (⟨h, _⟩ | ⟨_, _, rfl, t⟩ | ⟨_, h, _⟩)⟩
      ·rw [hxf] at h; cases h
      ·exact ⟨rfl, E1.out w' t.out, (cc.out.cell (p := ⟨b, 0, none⟩) hbA.1 hbA.2).trans (K0.out _ CAh.out)⟩
      ·exact absurd h hzz
     have e40 := Lib.hid (BAD.out z hzm.out (by omega))
     clear IN E1 E2 OK2 hxf hzz
     unfold blankV at IN2
     go_wp2_with fail
     go_region_held3 (fun w' : World => w'.cell? ⟨b, 0, none⟩ = some (.slice (some ⟨bt2, 0, none⟩) n n)) (first | exact c0 | exact K0.out _ ((Chg.refl _ _).drewN 1) | exact K0.out _ CBL.out | exact DN.out) (first
      | (go_at_call 102; refine BL.out.mono ?_; rintro e wb ⟨rfl, hwb⟩; have CBL : Hid (Chg [] wr wb) := (by rw [hwb]; exact CAh.out); rw [← hwb] at IN2; clear hwb BL)
      | (go_at_call 93; refine IN2.out.mono ?_; rintro e wc ⟨rfl, hE, DN⟩))
     have P : Hid (∀ e0, e0 = .returned (.tuple #[.pointer none, .int .u16 40]) → BNewed w sizes e0 wc) := fun e0 he => .inl ⟨by rw [e40.out]; decide, by rw [e40.out]; exact he, hE⟩
     clear hE IN2 DN K0 CAh CBL HF C c0 hbA e40 FIT BAD GOOD
     go_wp2_with fail
     go_ret2
     exact P.out _ rfl
  ·obtain rfl : j = n := by omega
   have P : Hid (∀ e0, e0 = .returned (.tuple #[.pointer (some ⟨b, 0, none⟩), .int .u16 0]) → BNewed w sizes e0 wr) := fun e0 he => by
    have h0 : Bay.newErr sizes = 0 := GOOD.out (fun z hm => by
     obtain ⟨a, ha⟩ := List.mem_iff_getElem?.1 hm
     exact OKS.out a z (by rw [hn.out]; exact (List.getElem?_eq_some_iff.1 ha).1) ha)
    refine .inr ⟨h0, b, F1, he, ?_, HF, C⟩
    have h1 := T.out
    rw [hn.out, Bay.newPart_all] at h1
    exact h1
   clear T HF C OKS FIT BAD GOOD
   go_wp2_with fail
   go_ret2
   exact P.out _ rfl

end Go.Proofs.YtkafkdlgflkjgaaGreat
