/-
  The program's bay: what only reads it; Fail, Wear, Trip. By an AI agent.
-/
import Derived.Test.YtljhpdgjajhgbaaByEasy
import Derived.Test.YtljhpdgjajhgbaaByMath
namespace Go.Proofs.Ytljhpdgjajhgbaa
open Go.RowKit Go.Maps

theorem Bay.out_of {y : Bay} {s : Int} (h : y.is s = false) : s < 0 ∨ (y.slots.length : Int) ≤ s := by
  have := of_decide_eq_false h
  omega

theorem info_counts : (Try.prog.info? 54).map (·.size) = some 3 := by kernel_rfl

/-- A slot's disk, as the program finds it. -/
theorem BayIn.cases {w : World} {b : Nat} {F : List Nat} {y : Bay} (h : BayIn w b F y) (s : Int) (hs : I64 s) :
    (y.is s = false ∧ y.dev s = none ∧ y.there s = 1 ∧ (∃ bt vs ps Fs, BRep w b F y bt vs ps Fs) ∧
      Calls Try.prog 48 #[.pointer (some ⟨b, 0, none⟩), .int .i64 s] w fun e w' => e = .returned (.tuple #[.pointer none, .int .u16 1]) ∧ w' = w) ∨
    (∃ (i : Nat) (x : Slot) (bt : Nat) (vs : List Value) (ps : Nat → Nat → Option Nat) (Fs : Nat → Nat → List Nat), s = i ∧ i < y.slots.length ∧ y.is s = true ∧ y.slots[i]? = some x ∧ x.inn = none ∧ y.dev s = none ∧ y.there s = 51 ∧ BRep w b F y bt vs ps Fs ∧ ps i 0 = none ∧
      Calls Try.prog 48 #[.pointer (some ⟨b, 0, none⟩), .int .i64 s] w fun e w' => e = .returned (.tuple #[.pointer none, .int .u16 51]) ∧ w' = w) ∨
    (∃ (i : Nat) (x : Slot) (bt : Nat) (vs : List Value) (ps : Nat → Nat → Option Nat) (Fs : Nat → Nat → List Nat) (k : Nat) (d : Dev), s = i ∧ i < y.slots.length ∧ y.is s = true ∧ y.slots[i]? = some x ∧ x.inn = some d ∧ y.dev s = some d ∧ y.there s = 0 ∧ BRep w b F y bt vs ps Fs ∧ ps i 0 = some k ∧ DevIn w k (Fs i 0) d ∧
      Calls Try.prog 48 #[.pointer (some ⟨b, 0, none⟩), .int .i64 s] w fun e w' => e = .returned (.tuple #[.pointer (some ⟨k, 0, none⟩), .int .u16 0]) ∧ w' = w) := by
  obtain ⟨bt, vs, ps, Fs, r⟩ := h.rep
  have c0 := r.blk.cell (j := 0) rfl
  cases his : y.is s with
  | false =>
    refine .inl ⟨rfl, ?_, ?_, ⟨bt, vs, ps, Fs, r⟩, drive_out b bt _ w c0 s hs (Bay.out_of his)⟩
    · unfold Bay.dev
      rw [his]
      rfl
    · unfold Bay.there
      rw [his]
      rfl
  | true =>
    obtain ⟨i, rfl, hi⟩ := Bay.is_some his
    have hx : y.slots[i]? = some y.slots[i] := List.getElem?_eq_getElem hi
    have hp := r.ptr i 0 hi (by decide)
    have cp := r.tr.cell hp
    have hD := drive_in b bt _ w c0 i hi (ps i 0) cp
    have hd := r.dev i 0
    rw [Bay.place_of hx] at hd
    have hdev : y.dev i = y.slots[i].inn := by
      rw [Bay.dev_place hi, Bay.place_of hx]
      rfl
    cases hin : y.slots[i].inn with
    | none =>
      have hn : y.dev i = none := by rw [hdev, hin]
      have hpn := (hd.isNone (show y.slots[i].get 0 = none from hin)).1
      rw [hpn] at hD
      refine .inr (.inl ⟨i, y.slots[i], bt, vs, ps, Fs, rfl, hi, rfl, hx, hin, hn, ?_, r, hpn, hD⟩)
      unfold Bay.there
      rw [his, hn]
      rfl
    | some d =>
      have hn : y.dev i = some d := by rw [hdev, hin]
      obtain ⟨k, hk, hk2⟩ := hd.isSome (show y.slots[i].get 0 = some d from hin)
      rw [hk] at hD
      exact .inr (.inr ⟨i, y.slots[i], bt, vs, ps, Fs, k, d, rfl, hi, rfl, hx, hin, hn, Bay.there_ok hn, r, hk, hk2, hD⟩)

section
variable (b : Nat) (F : List Nat) (y : Bay) (w : World) (h : (BayT b y F).P w)
include h

set_option maxHeartbeats 1000000 in
set_option maxRecDepth 100000 in
theorem bhas_any (s : Int) (hs : I64 s) : Calls Try.prog 31 #[.pointer (some ⟨b, 0, none⟩), .int .i64 s] w fun e w' => e = .returned (.bool (y.has s)) ∧ ∃ q, w' = w.drewN q := by
  have h' : BayIn w b F y := h
  unfold Bay.has
  rcases h'.cases s hs with ⟨his, hd, _, ⟨bt, vs, ps, Fs, r⟩, _⟩ | ⟨i, x, bt, vs, ps, Fs, rfl, hi, _, hx, hin, hd, _, r, hp, _⟩ | ⟨i, x, bt, vs, ps, Fs, k, d, rfl, hi, _, hx, hin, hd, _, r, hp, hk, _⟩
  · have T := Lib.hid (tray_out b bt _ w (r.blk.cell (j := 0) rfl) s hs (Bay.out_of his))
    rw [hd]
    clear h h' his hd r hs
    go_enter Try.func31, Try.ntmps31
    go_wp2_with fail
    refine T.out.mono ?_
    rintro e w1 ⟨rfl, hw⟩
    subst hw
    clear T
    go_wp2_with fail
    go_ret
    exact ⟨rfl, 0, rfl⟩
  · have T := Lib.hid (tray_in b bt _ w (r.blk.cell (j := 0) rfl) i hi)
    have cp := r.tr.cell (r.ptr i 0 hi (by decide))
    rw [hp] at cp
    have R := Lib.hid (running_none bt (i * 3) w cp)
    rw [hd]
    clear h h' hx hin hd r hs hp cp hi
    go_enter Try.func31, Try.ntmps31
    go_wp2_with fail
    refine T.out.mono ?_
    rintro e w1 ⟨rfl, hw⟩
    subst hw
    clear T
    go_wp2_with fail
    refine R.out.mono ?_
    rintro e w1 ⟨rfl, q, hw⟩
    subst hw
    clear R
    go_wp2_with fail
    go_ret
    exact ⟨rfl, q, rfl⟩
  · have T := Lib.hid (tray_in b bt _ w (r.blk.cell (j := 0) rfl) i hi)
    have cp := r.tr.cell (r.ptr i 0 hi (by decide))
    rw [hp] at cp
    have R := Lib.hid (running_some bt (i * 3) k (Fs i 0) d w cp hk)
    rw [hd]
    simp only
    generalize d.disk.bad = bad at *
    clear h h' hx hin hd r hs hp cp hi hk
    go_enter Try.func31, Try.ntmps31
    go_wp2_with fail
    refine T.out.mono ?_
    rintro e w1 ⟨rfl, hw⟩
    subst hw
    clear T
    go_wp2_with fail
    refine R.out.mono ?_
    rintro e w1 ⟨rfl, q, hw⟩
    subst hw
    clear R
    go_wp2_with fail
    go_ret
    exact ⟨rfl, q, rfl⟩

set_option maxHeartbeats 1000000 in
set_option maxRecDepth 100000 in
theorem bsectors_any (s : Int) (hs : I64 s) : Calls Try.prog 32 #[.pointer (some ⟨b, 0, none⟩), .int .i64 s] w fun e w' => e = .returned (.int .i64 (y.sectors s : Int)) ∧ ∃ q, w' = w.drewN q := by
  have h' : BayIn w b F y := h
  unfold Bay.sectors
  rcases h'.cases s hs with ⟨_, hd, _, _, D⟩ | ⟨i, x, bt, vs, ps, Fs, rfl, _, _, _, _, hd, _, _, _, D⟩ | ⟨i, x, bt, vs, ps, Fs, k, d, rfl, hi, _, hx, hin, hd, _, r, hp, hk, D⟩
  · replace D := Lib.hid D
    rw [hd]
    clear h h' hd hs
    go_enter Try.func32, Try.ntmps32
    go_wp2_with fail
    refine D.out.mono ?_
    rintro e w1 ⟨rfl, hw⟩
    subst hw
    clear D
    go_wp2_with fail
    go_ret
    exact ⟨rfl, 0, rfl⟩
  · replace D := Lib.hid D
    rw [hd]
    clear h h' hd hs
    go_enter Try.func32, Try.ntmps32
    go_wp2_with fail
    refine D.out.mono ?_
    rintro e w1 ⟨rfl, hw⟩
    subst hw
    clear D
    go_wp2_with fail
    go_ret
    exact ⟨rfl, 0, rfl⟩
  · obtain ⟨g, Fd, _, _, hb, hdk⟩ := hk.rep
    have cd := hb.cell (j := 0) rfl
    have T := Lib.hid (dsectors_any g Fd d.disk w hdk)
    replace D := Lib.hid D
    rw [hd]
    simp only
    generalize d.disk.last.length = m at *
    clear h h' hx hin hd r hs hp hi hk hb hdk
    go_enter Try.func32, Try.ntmps32
    go_wp2_with fail
    refine D.out.mono ?_
    rintro e w1 ⟨rfl, hw⟩
    subst hw
    clear D
    go_wp2_with fail
    refine T.out.mono ?_
    rintro e w1 ⟨rfl, q, hw⟩
    subst hw
    clear T
    go_wp2_with fail
    go_ret
    exact ⟨rfl, q, rfl⟩

set_option maxHeartbeats 1000000 in
set_option maxRecDepth 100000 in
theorem bdark_any : Calls Try.prog 25 #[.pointer (some ⟨b, 0, none⟩)] w fun e w' => e = .returned (.bool y.dark) ∧ ∃ q, w' = w.drewN q := by
  have h' : BayIn w b F y := h
  obtain ⟨bt, vs, ps, Fs, r⟩ := h'.rep
  have c1 := r.blk.cell (j := 1) rfl
  generalize y.dark = n at *
  clear h h' r
  go_enter Try.func25, Try.ntmps25
  go_wp2_with fail
  go_ret
  exact ⟨rfl, 0, rfl⟩

set_option maxHeartbeats 1000000 in
set_option maxRecDepth 100000 in
theorem bcounts_any : Calls Try.prog 27 #[.pointer (some ⟨b, 0, none⟩)] w fun e w' => e = .returned (.agg #[.int .i64 (y.reads : Int), .int .i64 (y.writes : Int), .int .i64 (y.flushes : Int)]) ∧ Hid (Chg [] w w') := by
  have h' : BayIn w b F y := h
  obtain ⟨bt, vs, ps, Fs, r⟩ := h'.rep
  have hlt := r.blk.lt
  have c4 := r.blk.cell (j := 4) rfl
  have c5 := r.blk.cell (j := 5) rfl
  have c6 := r.blk.cell (j := 6) rfl
  generalize (y.reads : Int) = n4 at *
  generalize (y.writes : Int) = n5 at *
  generalize (y.flushes : Int) = n6 at *
  clear h h' r
  go_enter Try.func27, Try.ntmps27
  go_wp2_with fail
  refine bodyPost_ret (results_cell_row rfl _ _ w.heap.size _ _ _ _ rfl (Blk.made w [.int .i64 n4, .int .i64 n5, .int .i64 n6] _) Try.underlying54 rfl info_counts) rfl ?_
  exact ⟨rfl, (Chg.refl _ w).alloc _⟩

set_option maxHeartbeats 1000000 in
set_option maxRecDepth 100000 in
theorem bpending_any (s : Int) (hs : I64 s) (hl : y.Low 1000000000) : Calls Try.prog 23 #[.pointer (some ⟨b, 0, none⟩), .int .i64 s] w fun e w' => ∃ u, e = .returned u ∧ Hid (w'.ownsRow w.heap.size 3 1 u (y.pending s).length ((ints (y.pending s)).map (Value.int .i64))) ∧ Hid (Chg [] w w') := by
  have h' : BayIn w b F y := h
  unfold Bay.pending
  rcases h'.cases s hs with ⟨_, hd, _, _, D⟩ | ⟨i, x, bt, vs, ps, Fs, rfl, _, _, _, _, hd, _, _, _, D⟩ | ⟨i, x, bt, vs, ps, Fs, k, d, rfl, hi, _, hx, hin, hd, _, r, hp, hk, D⟩
  · replace D := Lib.hid D
    rw [hd]
    clear h h' hd hs
    go_enter Try.func23, Try.ntmps23
    go_wp2_with fail
    refine D.out.mono ?_
    rintro e w1 ⟨rfl, hw⟩
    subst hw
    clear D
    go_wp2_with fail
    go_ret
    exact ⟨_, rfl, World.ownsRow_nil _ _ _ _, Chg.refl _ _⟩
  · replace D := Lib.hid D
    rw [hd]
    clear h h' hd hs
    go_enter Try.func23, Try.ntmps23
    go_wp2_with fail
    refine D.out.mono ?_
    rintro e w1 ⟨rfl, hw⟩
    subst hw
    clear D
    go_wp2_with fail
    go_ret
    exact ⟨_, rfl, World.ownsRow_nil _ _ _ _, Chg.refl _ _⟩
  · obtain ⟨g, Fd, _, _, hb, hdk⟩ := hk.rep
    have cd := hb.cell (j := 0) rfl
    have T := Lib.hid (dpending_any g Fd d.disk w hdk (hl.caches _ d hd))
    replace D := Lib.hid D
    rw [hd]
    simp only
    clear h h' hx hin hd r hs hp hi hk hb hdk hl
    go_enter Try.func23, Try.ntmps23
    go_wp2_with fail
    refine D.out.mono ?_
    rintro e w1 ⟨rfl, hw⟩
    subst hw
    clear D
    go_wp2_with fail
    refine T.out.mono ?_
    rintro e w1 ⟨u, rfl, O, C⟩
    clear T
    go_wp2_with fail
    go_ret
    exact ⟨_, rfl, O, C⟩

set_option maxHeartbeats 1000000 in
set_option maxRecDepth 100000 in
theorem bimage_any (s : Int) (hs : I64 s) : Calls Try.prog 21 #[.pointer (some ⟨b, 0, none⟩), .int .i64 s] w (GivesE w (y.image s) (y.there s)) := by
  have h' : BayIn w b F y := h
  unfold Bay.image
  rcases h'.cases s hs with ⟨_, hd, ht, _, D⟩ | ⟨i, x, bt, vs, ps, Fs, rfl, _, _, _, _, hd, ht, _, _, D⟩ | ⟨i, x, bt, vs, ps, Fs, k, d, rfl, hi, _, hx, hin, hd, ht, r, hp, hk, D⟩
  · replace D := Lib.hid D
    rw [hd, ht]
    clear h h' hd hs ht
    go_enter Try.func21, Try.ntmps21
    go_wp2_with fail
    refine D.out.mono ?_
    rintro e w1 ⟨rfl, hw⟩
    subst hw
    clear D
    go_wp2_with fail
    go_ret2
    exact ⟨5, _, rfl, World.ownsRow_nil _ _ _ _, Chg.refl _ _⟩
  · replace D := Lib.hid D
    rw [hd, ht]
    clear h h' hd hs ht
    go_enter Try.func21, Try.ntmps21
    go_wp2_with fail
    refine D.out.mono ?_
    rintro e w1 ⟨rfl, hw⟩
    subst hw
    clear D
    go_wp2_with fail
    go_ret2
    exact ⟨5, _, rfl, World.ownsRow_nil _ _ _ _, Chg.refl _ _⟩
  · obtain ⟨g, Fd, _, _, hb, hdk⟩ := hk.rep
    have cd := hb.cell (j := 0) rfl
    have T := Lib.hid (dimage_any g Fd d.disk w hdk)
    replace D := Lib.hid D
    rw [hd, ht]
    simp only
    clear h h' hx hin hd r hs hp hi hk hb hdk ht
    go_enter Try.func21, Try.ntmps21
    go_wp2_with fail
    refine D.out.mono ?_
    rintro e w1 ⟨rfl, hw⟩
    subst hw
    clear D
    go_wp2_with fail
    refine T.out.mono ?_
    rintro e w1 ⟨u, rfl, O, C⟩
    clear T
    go_wp2_with fail
    go_ret2
    exact ⟨5, _, rfl, O, C⟩


set_option maxHeartbeats 1000000 in
set_option maxRecDepth 100000 in
theorem bfail_any (s : Int) (hs : I64 s) : Calls Try.prog 36 #[.pointer (some ⟨b, 0, none⟩), .int .i64 s] w fun e w' => e = .returned (.int .u16 (y.there s : Nat)) ∧ Hid (Turns w F (BayT b (y.fail s)) w') := by
  have h' : BayIn w b F y := h
  have T0 : Hid (Turns w F (BayT b y) w) := Turns.same h rfl
  unfold Bay.fail
  rcases h'.cases s hs with ⟨_, hd, ht, _, D⟩ | ⟨i, x, bt, vs, ps, Fs, rfl, _, _, _, _, hd, ht, _, _, D⟩ | ⟨i, x, bt, vs, ps, Fs, k, d, rfl, hi, _, hx, hin, hd, ht, r, hp, hk, D⟩
  · replace D := Lib.hid D
    rw [hd, ht]
    clear h h' hd hs ht
    go_enter Try.func36, Try.ntmps36
    go_wp2_with fail
    refine D.out.mono ?_
    rintro e w1 ⟨rfl, hw⟩
    subst hw
    clear D
    go_wp2_with fail
    go_ret
    exact ⟨rfl, T0⟩
  · replace D := Lib.hid D
    rw [hd, ht]
    clear h h' hd hs ht
    go_enter Try.func36, Try.ntmps36
    go_wp2_with fail
    refine D.out.mono ?_
    rintro e w1 ⟨rfl, hw⟩
    subst hw
    clear D
    go_wp2_with fail
    go_ret
    exact ⟨rfl, T0⟩
  · obtain ⟨g, Fd, hFd, hkd, hb, hdk⟩ := hk.rep
    have cd := hb.cell (j := 0) rfl
    have T := Lib.hid (dfail_any g Fd d.disk w hdk)
    have R : Hid (∀ w', Turns w Fd (DiskT g d.disk.fail) w' → Turns w F (BayT b (y.setIn i (d.lay d.disk.fail))) w') := fun w' ⟨F2, h1, h2, h3⟩ => by
      have hf0 := (h'.fit.slot hx).devs d (.inl hin)
      refine r.inn h'.lt h'.fit hx hp (d.lay d.disk.fail) ⟨hf0.1.fail, hf0.2⟩ (k :: F2) ⟨g, F2, rfl, fun hm => ?_, hb.chg h3 hkd, h1⟩ (fun j hj => ?_) (h3.mono (by rw [hFd]; intro q hq; exact List.mem_cons_of_mem _ hq))
      · rcases h2 k hm with q | q
        · exact hkd q
        · have := hb.lt; omega
      · rw [hFd]
        rcases List.mem_cons.1 hj with rfl | hj
        · exact .inl List.mem_cons_self
        · exact (h2 j hj).imp (List.mem_cons_of_mem _) id
    replace D := Lib.hid D
    rw [hd, ht]
    simp only
    clear h h' hx hin hd r hs hp hi hk hb hdk ht T0 hFd hkd
    go_enter Try.func36, Try.ntmps36
    go_wp2_with fail
    refine D.out.mono ?_
    rintro e w1 ⟨rfl, hw⟩
    subst hw
    clear D
    go_wp2_with fail
    refine T.out.mono ?_
    rintro e w2 ⟨rfl, hT⟩
    have T1 := Lib.hid (R.out _ hT)
    clear T R hT
    go_wp2_with fail
    go_ret
    exact ⟨rfl, T1⟩

set_option maxHeartbeats 1000000 in
set_option maxRecDepth 100000 in
theorem bwear_any (s n : Int) (hs : I64 s) (hn : I64 n) : Calls Try.prog 35 #[.pointer (some ⟨b, 0, none⟩), .int .i64 s, .int .i64 n] w fun e w' => e = .returned (.int .u16 (y.wearErr s n : Nat)) ∧ Hid (Turns w F (BayT b (y.wear s n)) w') := by
  have h' : BayIn w b F y := h
  have T0 : Hid (Turns w F (BayT b y) w) := Turns.same h rfl
  unfold Bay.wear Bay.wearErr
  obtain ⟨hn1, hn2⟩ := hn
  by_cases hneg : n < 0
  · rw [if_pos hneg, if_pos hneg]
    clear h h' hs
    go_enter Try.func35, Try.ntmps35
    go_wp2_with fail
    go_ret
    exact ⟨rfl, T0⟩
  rw [if_neg hneg, if_neg hneg]
  have hneg2 : ¬ n < 0 := hneg
  rcases h'.cases s hs with ⟨_, hd, ht, _, D⟩ | ⟨i, x, bt, vs, ps, Fs, rfl, _, _, _, _, hd, ht, _, _, D⟩ | ⟨i, x, bt, vs, ps, Fs, k, d, rfl, hi, _, hx, hin, hd, ht, r, hp, hk, D⟩
  · replace D := Lib.hid D
    rw [hd, ht]
    clear h h' hd hs ht
    go_enter Try.func35, Try.ntmps35
    go_wp2_with fail
    refine D.out.mono ?_
    rintro e w1 ⟨rfl, hw⟩
    subst hw
    clear D
    go_wp2_with fail
    go_ret
    exact ⟨rfl, T0⟩
  · replace D := Lib.hid D
    rw [hd, ht]
    clear h h' hd hs ht
    go_enter Try.func35, Try.ntmps35
    go_wp2_with fail
    refine D.out.mono ?_
    rintro e w1 ⟨rfl, hw⟩
    subst hw
    clear D
    go_wp2_with fail
    go_ret
    exact ⟨rfl, T0⟩
  · obtain ⟨g, Fd, hFd, hkd, hb, hdk⟩ := hk.rep
    have cd := hb.cell (j := 0) rfl
    have c1 := hb.cell (j := 1) rfl
    have c2 := hb.cell (j := 2) rfl
    have f1 := hb.free 1
    have f2 := hb.free 2
    have B2 := (hb.set 1 (.bool true)).set 2 (.int .i64 n)
    have C2 : Chg [k] w ((w.setCell ⟨k, 1, none⟩ (.bool true)).setCell ⟨k, 2, none⟩ (.int .i64 n)) := ((Chg.refl _ _).setCell (.inl (by simp)) _).setCell (.inl (by simp)) _
    have R : Hid (Turns w F (BayT b (y.setIn i { d with wear := some n.toNat })) ((w.setCell ⟨k, 1, none⟩ (.bool true)).setCell ⟨k, 2, none⟩ (.int .i64 n))) := by
      have hf0 := (h'.fit.slot hx).devs d (.inl hin)
      refine r.inn h'.lt h'.fit hx hp { d with wear := some n.toNat } ⟨hf0.1, fun m hm => ?_⟩ (k :: Fd) ⟨g, Fd, rfl, hkd, ?_, (DiskT g d.disk Fd).stays _ _ _ hdk C2 (fun j hj hm => hkd (by rw [← List.mem_singleton.1 hm]; exact hj))⟩ (fun j hj => .inl (by rw [hFd]; exact hj)) (C2.mono (by rw [hFd]; simp))
      · have : n.toNat = m := by simpa using hm
        omega
      · show Blk _ k _ [.pointer (some ⟨g, 0, none⟩), .bool true, .int .i64 ((n.toNat : Nat) : Int)]
        rw [show ((n.toNat : Nat) : Int) = n by omega]
        exact B2
    replace D := Lib.hid D
    rw [hd, ht]
    simp only
    clear h h' hx hin hd r hs hp hi hk hb hdk ht T0 hFd hkd B2 C2 cd
    go_enter Try.func35, Try.ntmps35
    go_wp2_with fail
    refine D.out.mono ?_
    rintro e w1 ⟨rfl, hw⟩
    subst hw
    clear D
    go_wp2_with fail
    go_ret
    exact ⟨rfl, R⟩

set_option maxHeartbeats 1000000 in
set_option maxRecDepth 100000 in
theorem btrip_any (n : Int) (hn : I64 n) : Calls Try.prog 24 #[.pointer (some ⟨b, 0, none⟩), .int .i64 n] w fun e w' => e = .returned (.int .u16 (y.tripErr n : Nat)) ∧ Hid (Turns w F (BayT b (y.tripped n)) w') := by
  have h' : BayIn w b F y := h
  have T0 : Hid (Turns w F (BayT b y) w) := Turns.same h rfl
  obtain ⟨hn1, hn2⟩ := hn
  obtain ⟨bt, vs, ps, Fs, r⟩ := h'.rep
  by_cases hneg : n < 0
  · have e1 : y.tripErr n = 1 := by unfold Bay.tripErr; rw [if_pos hneg]
    have e2 : y.tripped n = y := by unfold Bay.tripped; rw [if_neg (by rw [e1]; decide)]
    rw [e1, e2]
    clear h h' r e1 e2
    go_enter Try.func24, Try.ntmps24
    go_wp2_with fail
    go_ret
    exact ⟨rfl, T0⟩
  have hneg2 : ¬ n < 0 := hneg
  have c1 := r.blk.cell (j := 1) rfl
  cases hdk : y.dark with
  | true =>
    have e1 : y.tripErr n = 50 := by unfold Bay.tripErr; rw [if_neg hneg, if_pos hdk]
    have e2 : y.tripped n = y := by unfold Bay.tripped; rw [if_neg (by rw [e1]; decide)]
    rw [hdk] at c1
    rw [e1, e2]
    clear h h' r e1 e2
    go_enter Try.func24, Try.ntmps24
    go_wp2_with fail
    go_ret
    exact ⟨rfl, T0⟩
  | false =>
    have e1 : y.tripErr n = 0 := by unfold Bay.tripErr; rw [if_neg hneg, hdk]; rfl
    have e2 : y.tripped n = { y with trip := some n.toNat } := by unfold Bay.tripped; rw [if_pos e1]
    rw [hdk] at c1
    rw [e1, e2]
    have c2 := r.blk.cell (j := 2) rfl
    have c3 := r.blk.cell (j := 3) rfl
    have f2 := r.blk.free 2
    have f3 := r.blk.free 3
    have R : Hid (Turns w F (BayT b { y with trip := some n.toNat }) ((w.setCell ⟨b, 2, none⟩ (.bool true)).setCell ⟨b, 3, none⟩ (.int .i64 n))) := by
      refine r.headTurns (y' := { y with trip := some n.toNat }) h'.lt (h'.fit.same rfl (fun m hm => ?_)) rfl (((Chg.refl _ _).setCell (.inl (by simp)) _).setCell (.inl (by simp)) _) ?_
      · have : n.toNat = m := by simpa using hm
        omega
      · have B2 := (r.blk.set 2 (.bool true)).set 3 (.int .i64 n)
        show Blk _ b _ [.slice (some ⟨bt, 0, none⟩) y.slots.length y.slots.length, .bool y.dark, .bool true, .int .i64 ((n.toNat : Nat) : Int), .int .i64 (y.reads : Int), .int .i64 (y.writes : Int), .int .i64 (y.flushes : Int)]
        rw [show ((n.toNat : Nat) : Int) = n by omega]
        exact B2
    generalize (Value.bool y.trip.isSome) = z1 at *
    generalize (Value.int IntKind.i64 ((y.trip.getD 0 : Nat) : Int)) = z2 at *
    clear h h' r e1 e2 T0 hdk
    go_enter Try.func24, Try.ntmps24
    go_wp2_with fail
    go_ret
    exact ⟨rfl, R⟩


end
end Go.Proofs.Ytljhpdgjajhgbaa
