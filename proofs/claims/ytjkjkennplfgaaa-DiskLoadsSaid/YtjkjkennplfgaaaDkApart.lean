/-
  DiskApart walked. By an AI agent.
-/
import Derived.Test.YtjkjkennplfgaaaDkAll
namespace Go.Proofs.Ytjkjkennplfgaaa
open Go.RowKit

theorem Well.now_write {d : Dk} {n i : Nat} (h : Well d n i) {m : Nat} (hm : m < n) {b : List Nat} (hb : b.length = 128) (k : Nat) : (d.write m b).now k = if m = k then b else d.now k := by
  rw [(Dk.write_ok h.bad (by rw [h.len]; exact hm) hb).2, Dk.now_eq, Dk.now_eq]
  exact Dk.over_snoc _ _ _ _

theorem Well.now_flush {d : Dk} {n i : Nat} (h : Well d n i) {k : Nat} (hk : k < n) : d.flush.last.getD k [] = d.now k := by
  rw [(Dk.flush_ok h.bad).2, Dk.now_eq]
  exact Dk.lays_getD _ _ _ (by rw [h.len]; exact hk)

theorem Well.crash_lose {d : Dk} {n i : Nat} (h : Well d n i) : d.crash [] = { d with cache := [] } := by
  rw [Dk.crash_ok h.bad, Dk.kept_nil]
  rfl

theorem Well.crash {d : Dk} {n i : Nat} (h : Well d n i) (keep : List Bool) : Well (d.crash keep) n 0 := by
  rw [Dk.crash_ok h.bad]
  refine ⟨h.bad, by show ((Dk.kept keep 0 d.cache).foldl Dk.lay d.last).length = n; rw [Dk.lays_length]; exact h.len, rfl, fun s hs => ?_, (fun x hx => by cases hx)⟩
  rcases Dk.lays_mem _ _ s hs with hs | ⟨x, hx, rfl⟩
  · exact h.sec s hs
  · exact h.wr x (Dk.kept_sub _ _ _ x hx)

theorem Well.read {d : Dk} {n i : Nat} (h : Well d n i) {k : Nat} (hk : k < n) : d.readVal k = d.now k ∧ d.check k = 0 :=
  ⟨(Dk.read_ok h.bad (by rw [h.len]; exact hk)).2, (Dk.read_ok h.bad (by rw [h.len]; exact hk)).1⟩

set_option maxHeartbeats 8000000 in
set_option maxRecDepth 100000 in
theorem diskApart_walk (s a0 : Int) (v : Value) (es : List ActD) (w : World) (hs : 0 ≤ s ∧ s ≤ 255) (ha0 : 0 ≤ a0 ∧ a0 ≤ 255) (hv : Acts w v es) :
    Calls Try.prog 6 #[.int .u8 s, .int .u8 a0, v] w fun e w' => e = .returned (.bool true) ∧ Chg [] w w' := by
  obtain ⟨r, hr, hr9⟩ := tmod_nat hs.1 20 (by decide)
  rw [show ((20 : Nat) : Int) = 20 from rfl] at hr
  obtain ⟨k, hk, hkl⟩ := tmod_nat ha0.1 (r + 2) (by omega)
  rw [show ((r + 2 : Nat) : Int) = (r : Int) + 2 by omega] at hk
  have hr0 : (0 : Int) ≤ r := Int.natCast_nonneg _
  have hr1 : (r : Int) < 20 := by omega
  have hk0 : (0 : Int) ≤ k := Int.natCast_nonneg _
  have hne : (r : Int) + 2 ≠ 0 := by omega
  have HV := Lib.hid hv
  have hlen := hv.len
  obtain ⟨vo, vc, rfl⟩ := hv.slice
  clear hv
  by_cases hbig : 300 < es.length
  · have hb1 : (300 : Int) < es.length := by omega
    go_enter Try.func6, Try.ntmps6
    go_wp2_with fail
    refine (dknown_any w).mono ?_
    rintro e w1 ⟨rfl, C⟩
    go_wp2_with fail
    go_ret
    exact ⟨rfl, C.out⟩
  have hb1 : ¬ (300 : Int) < es.length := by omega
  go_enter Try.func6, Try.ntmps6
  go_wp2_with fail
  have H : Hid (Side w w []) := Side.nil (Chg.refl _ _)
  refine (dknown_any w).mono ?_
  rintro e w1 ⟨rfl, C⟩
  replace H : Hid (Side w w1 []) := H.out.quiet C.out
  clear C
  have hnn : ((r : Int) + 2).toNat = r + 2 := by omega
  go_wp2_with fail
  refine (dnew_any _ w1 (by omega)).mono ?_
  rintro e w2 (⟨h, _⟩ | ⟨_, g, F, rfl, D, N, C⟩)
  · exact absurd ⟨by omega, by omega⟩ h
  rw [hnn] at D
  replace H : Hid (Side w w2 [DiskT g (Dk.new (r + 2)) F]) := H.out.add C.out D.out N.out
  clear D N C
  go_wp2_with fail
  refine (dnew_any _ w2 (by omega)).mono ?_
  rintro e w3 (⟨h, _⟩ | ⟨_, o, G, rfl, D, N, C⟩)
  · exact absurd ⟨by omega, by omega⟩ h
  rw [hnn] at D
  replace H : Hid (Side w w3 [DiskT o (Dk.new (r + 2)) G, DiskT g (Dk.new (r + 2)) F]) := H.out.add C.out D.out N.out
  clear D N C
  have WL := Lib.hid (Well.new (r + 2))
  generalize Dk.new (r + 2) = d0 at *
  go_wp2_with fail
  refine (sector_any 5 w3 (by decide)).mono ?_
  rintro e w4 ⟨u, rfl, O, C⟩
  replace H : Hid (Side w w4 [ownT 5 u ((ints (fullOf 5)).map (Value.int .u8)), DiskT o d0 G, DiskT g d0 F]) := H.out.own O.out C.out
  clear O C
  go_wp2_with fail
  obtain ⟨d1, hd1⟩ : ∃ e, e = Dk.write d0 k (fullOf 5) := ⟨_, rfl⟩
  have T0 := dwrite_any g F d0 k u _ w4 (H.out.get 2 rfl) (by omega) (ownT_sl (H.out.get 0 rfl)) (ints_by (fullOf_bs (by decide))) (by rw [ints_length, fullOf_length]; decide) (by rw [WL.out.many]; decide)
  rw [nats_ints, ← hd1] at T0
  refine (T0).mono ?_
  rintro e w5 ⟨rfl, T⟩
  obtain ⟨F1, H1⟩ := H.out.act 2 rfl T.out
  replace H : Hid (Side w w5 [ownT 5 u ((ints (fullOf 5)).map (Value.int .u8)), DiskT o d0 G, DiskT g d1 F1]) := H1
  clear H1 T
  replace H : Hid (Side w w5 [DiskT o d0 G, DiskT g d1 F1]) := H.out.tail
  clear T0
  have WL1 : Hid (Well d1 (r + 2) 1) := by rw [hd1]; exact WL.out.write hkl (fullOf_length _)
  have N1 : d1.now k = fullOf 5 := by rw [hd1, WL.out.now_write hkl (fullOf_length _), if_pos rfl]
  go_wp2_with fail
  obtain ⟨d2, hd2⟩ : ∃ e, e = d1.flush := ⟨_, rfl⟩
  have T0 := dflush_any g F1 d1 w5 (H.out.get 1 rfl)
  rw [← hd2] at T0
  refine (T0).mono ?_
  rintro e w6 ⟨rfl, T⟩
  obtain ⟨F2, H1⟩ := H.out.act 1 rfl T.out
  replace H : Hid (Side w w6 [DiskT o d0 G, DiskT g d2 F2]) := H1
  clear H1 T
  clear T0
  have WL2 : Hid (Well d2 (r + 2) 0) := by rw [hd2]; exact WL1.out.flush
  have L2 : Hid (d2.last.getD k [] = fullOf 5) := by show _ = _; rw [hd2, WL1.out.now_flush hkl, N1]
  go_wp2_with fail
  refine (sector_any 6 w6 (by decide)).mono ?_
  rintro e w7 ⟨u, rfl, O, C⟩
  replace H : Hid (Side w w7 [ownT 5 u ((ints (fullOf 6)).map (Value.int .u8)), DiskT o d0 G, DiskT g d2 F2]) := H.out.own O.out C.out
  clear O C
  go_wp2_with fail
  obtain ⟨d3, hd3⟩ : ∃ e, e = Dk.write d2 k (fullOf 6) := ⟨_, rfl⟩
  have T0 := dwrite_any g F2 d2 k u _ w7 (H.out.get 2 rfl) (by omega) (ownT_sl (H.out.get 0 rfl)) (ints_by (fullOf_bs (by decide))) (by rw [ints_length, fullOf_length]; decide) (by rw [WL2.out.many]; decide)
  rw [nats_ints, ← hd3] at T0
  refine (T0).mono ?_
  rintro e w8 ⟨rfl, T⟩
  obtain ⟨F3, H1⟩ := H.out.act 2 rfl T.out
  replace H : Hid (Side w w8 [ownT 5 u ((ints (fullOf 6)).map (Value.int .u8)), DiskT o d0 G, DiskT g d3 F3]) := H1
  clear H1 T
  replace H : Hid (Side w w8 [DiskT o d0 G, DiskT g d3 F3]) := H.out.tail
  clear T0
  have WL3 : Hid (Well d3 (r + 2) 1) := by rw [hd3]; exact WL2.out.write hkl (fullOf_length _)
  have N3 : Hid (d3.now k = fullOf 6) := by show _ = _; rw [hd3, WL2.out.now_write hkl (fullOf_length _), if_pos rfl]
  have L3 : Hid (d3.last.getD k [] = fullOf 5) := by show _ = _; rw [hd3, Dk.write_last]; exact L2.out
  clear hd1 hd2 hd3 N1 L2 WL1 WL2
  go_wp2_with fail
  go_loopw [13] (fun i wr => ∃ (j c1 c2 : Nat) (d o1 : Dk) (F G : List Nat), j ≤ es.length ∧ i = .int .i64 j ∧ Hid (Well d (r + 2) c1 ∧ c1 ≤ j + 1 ∧ d.now k = fullOf 6 ∧ d.last.getD k [] = fullOf 5) ∧ Hid (Well o1 (r + 2) c2 ∧ c2 ≤ j) ∧ Hid (Side w wr [DiskT o o1 G, DiskT g d F])) (fun i _ => es.length - (intOf i).toNat)
  case atStart => exact ⟨0, 1, 0, d3, d0, F3, G, Nat.zero_le _, rfl, ⟨WL3.out, by omega, N3.out, L3.out⟩, ⟨WL.out, by omega⟩, H⟩
  case round =>
    obtain ⟨j, c1, c2, d, o1, F1, G1, hj, rfl, WD, WO, HH⟩ := hrel
    clear H WL WL3 N3 L3
    have H : Hid (Side w wr [DiskT o o1 G1, DiskT g d F1]) := HH
    clear HH
    have hj0 : (0 : Int) ≤ j := Int.natCast_nonneg _
    by_cases hlt : j < es.length
    · obtain ⟨a, ha⟩ : ∃ a, es[j]? = some a := ⟨_, List.getElem?_eq_getElem hlt⟩
      obtain ⟨b, ob, rfl, hb, RI0⟩ := HV.out.at ha
      have RI := Lib.hid RI0
      obtain ⟨m, hm, hml⟩ := tmod_nat RI0.r0.1 (r + 2) (by omega)
      rw [show ((r + 2 : Nat) : Int) = (r : Int) + 2 by omega] at hm
      obtain ⟨kd, hkd⟩ := Int.eq_ofNat_of_zero_le RI0.r0.1
      have hq : 0 ≤ (kd : Int) ∧ (kd : Int) ≤ 255 := by rw [← hkd]; exact RI0.r0
      have hq8 : kd < 256 := by omega
      rw [hkd] at hm
      have hp := RI0.r1
      have hj1 : (j : Int) < es.length := by omega
      have hm0 : (0 : Int) ≤ m := Int.natCast_nonneg _
      have cc0 : ∀ w', Chg [] w w' → w'.cell? ⟨b, ob + j * 4, none⟩ = some (.int .u8 (kd : Int)) := fun w' c => by rw [← hkd]; exact (RI.out.chg hb c).c0
      have cc1 : ∀ w', Chg [] w w' → w'.cell? ⟨b, ob + j * 4 + 1, none⟩ = some (.int .i64 a.pos) := fun w' c => (RI.out.chg hb c).c1
      have cc3 : ∀ w', Chg [] w w' → w'.cell? ⟨b, ob + j * 4 + 3, none⟩ = some a.keepV := fun w' c => (RI.out.chg hb c).c3
      replace cc0 := Lib.hid cc0
      replace cc1 := Lib.hid cc1
      replace cc3 := Lib.hid cc3
      clear RI0 ha hkd
      have h5 : a.pos.tmod 5 = 0 ∨ a.pos.tmod 5 ≠ 0 := by omega
      have hmk : m = k ∨ m ≠ k := by omega
      rcases hmk with hmk | hmk
      · have hne1 : ((m : Int) != (k : Int)) = false := by simp; omega
        rcases h5 with h5 | h5
        · have h5b : (a.pos.tmod 5 == 0) = true := by simp [h5]
          have e0 := cc0.out _ H.out.chg
          have WD4 : Hid (Well d (r + 2) c1 ∧ c1 ≤ j + 1 + 1 ∧ d.now k = fullOf 6 ∧ d.last.getD k [] = fullOf 5) := ⟨WD.out.1, by have := WD.out.2.1; omega, WD.out.2.2⟩
          go_wp2_with fail
          clear e0
          refine (sector_any kd wr hq8).mono ?_
          rintro e w31 ⟨u, rfl, O, C⟩
          replace H : Hid (Side w w31 [ownT 5 u ((ints (fullOf kd)).map (Value.int .u8)), DiskT o o1 G1, DiskT g d F1]) := H.out.own O.out C.out
          clear O C
          go_wp2_with fail
          obtain ⟨o2, ho2⟩ : ∃ e, e = Dk.write o1 k (fullOf kd) := ⟨_, rfl⟩
          have T0 := dwrite_any o G1 o1 k u _ w31 (H.out.get 1 rfl) (by omega) (ownT_sl (H.out.get 0 rfl)) (ints_by (fullOf_bs hq8)) (by rw [ints_length, fullOf_length]; decide) (by have := WO.out.1.many; have := WO.out.2; omega)
          rw [nats_ints, ← ho2] at T0
          refine (T0).mono ?_
          rintro e w32 ⟨rfl, T⟩
          obtain ⟨G2, H1⟩ := H.out.act 1 rfl T.out
          replace H : Hid (Side w w32 [ownT 5 u ((ints (fullOf kd)).map (Value.int .u8)), DiskT o o2 G2, DiskT g d F1]) := H1
          clear H1 T
          replace H : Hid (Side w w32 [DiskT o o2 G2, DiskT g d F1]) := H.out.tail
          clear T0
          have WO2 : Hid (Well o2 (r + 2) (c2 + 1) ∧ c2 + 1 ≤ j + 1) := ⟨by rw [ho2]; exact WO.out.1.write hkl (fullOf_length _), by have := WO.out.2; omega⟩
          clear ho2
          have e1 := cc1.out _ H.out.chg
          go_wp2_with fail
          clear e1
          have T0 := dflush_any o G2 o2 w32 (H.out.get 0 rfl)
          refine (T0).mono ?_
          rintro e w33 ⟨rfl, T⟩
          obtain ⟨G3, H1⟩ := H.out.act 0 rfl T.out
          replace H : Hid (Side w w33 [DiskT o o2.flush G3, DiskT g d F1]) := H1
          clear H1 T
          clear T0
          have e3 := cc3.out _ H.out.chg
          go_wp2_with fail
          clear e3
          have T0 := dcrash_any o G3 o2.flush _ a.keep w33 (H.out.get 0 rfl) (RI.out.chg hb H.out.chg).s3 (hold_old H.out RI.out.s3 (i := 0) rfl)
          refine (T0).mono ?_
          rintro e w34 ⟨rfl, T⟩
          obtain ⟨G4, H1⟩ := H.out.act 0 rfl T.out
          replace H : Hid (Side w w34 [DiskT o (o2.flush.crash a.keep) G4, DiskT g d F1]) := H1
          clear H1 T
          clear T0
          have WO3 : Hid (Well (o2.flush.crash a.keep) (r + 2) 0 ∧ 0 ≤ j + 1) := ⟨WO2.out.1.flush.crash _, by omega⟩
          go_wp2_with fail
          obtain ⟨q1, q2⟩ := WD4.out.1.read hkl
          rw [WD4.out.2.2.1] at q1
          have T0 := dread_any g F1 d k w34 (H.out.get 1 rfl) (by omega)
          rw [q1, q2] at T0
          refine (T0).mono ?_
          rintro e w35 ⟨tx, x, rfl, O, C⟩
          replace H : Hid (Side w w35 [ownT tx x ((ints (fullOf 6)).map (Value.int .u8)), DiskT o (o2.flush.crash a.keep) G4, DiskT g d F1]) := H.out.own O.out C.out
          clear O C
          clear T0 q1 q2
          go_wp2_with fail
          refine (sector_any 6 w35 (by decide)).mono ?_
          rintro e w36 ⟨u, rfl, O, C⟩
          replace H : Hid (Side w w36 [ownT 5 u ((ints (fullOf 6)).map (Value.int .u8)), ownT tx x ((ints (fullOf 6)).map (Value.int .u8)), DiskT o (o2.flush.crash a.keep) G4, DiskT g d F1]) := H.out.own O.out C.out
          clear O C
          go_wp2_with fail
          refine (same_true _ _ (ints (fullOf 6)) _ (ownT_sl (H.out.get 1 rfl)) (ownT_sl (H.out.get 0 rfl)) (by rw [ints_length, fullOf_length]; decide)).mono ?_
          rintro e w37 ⟨rfl, q, hw⟩
          replace H : Hid (Side w w37 [ownT 5 u ((ints (fullOf 6)).map (Value.int .u8)), ownT tx x ((ints (fullOf 6)).map (Value.int .u8)), DiskT o (o2.flush.crash a.keep) G4, DiskT g d F1]) := H.out.quiet (by rw [hw]; exact (Chg.refl [] _).drewN _)
          clear hw
          replace H : Hid (Side w w37 [ownT tx x ((ints (fullOf 6)).map (Value.int .u8)), DiskT o (o2.flush.crash a.keep) G4, DiskT g d F1]) := H.out.tail
          replace H : Hid (Side w w37 [DiskT o (o2.flush.crash a.keep) G4, DiskT g d F1]) := H.out.tail
          go_wp2_with fail
          exact ⟨⟨j + 1, _, _, _, _, F1, G4, by omega, by go_num, WD4, WO3, H⟩, by simp [intOf]; omega⟩
        · have h5b : (a.pos.tmod 5 == 0) = false := beq_false_of_ne h5
          have e0 := cc0.out _ H.out.chg
          have WD4 : Hid (Well d (r + 2) c1 ∧ c1 ≤ j + 1 + 1 ∧ d.now k = fullOf 6 ∧ d.last.getD k [] = fullOf 5) := ⟨WD.out.1, by have := WD.out.2.1; omega, WD.out.2.2⟩
          go_wp2_with fail
          clear e0
          refine (sector_any kd wr hq8).mono ?_
          rintro e w31 ⟨u, rfl, O, C⟩
          replace H : Hid (Side w w31 [ownT 5 u ((ints (fullOf kd)).map (Value.int .u8)), DiskT o o1 G1, DiskT g d F1]) := H.out.own O.out C.out
          clear O C
          go_wp2_with fail
          obtain ⟨o2, ho2⟩ : ∃ e, e = Dk.write o1 k (fullOf kd) := ⟨_, rfl⟩
          have T0 := dwrite_any o G1 o1 k u _ w31 (H.out.get 1 rfl) (by omega) (ownT_sl (H.out.get 0 rfl)) (ints_by (fullOf_bs hq8)) (by rw [ints_length, fullOf_length]; decide) (by have := WO.out.1.many; have := WO.out.2; omega)
          rw [nats_ints, ← ho2] at T0
          refine (T0).mono ?_
          rintro e w32 ⟨rfl, T⟩
          obtain ⟨G2, H1⟩ := H.out.act 1 rfl T.out
          replace H : Hid (Side w w32 [ownT 5 u ((ints (fullOf kd)).map (Value.int .u8)), DiskT o o2 G2, DiskT g d F1]) := H1
          clear H1 T
          replace H : Hid (Side w w32 [DiskT o o2 G2, DiskT g d F1]) := H.out.tail
          clear T0
          have WO2 : Hid (Well o2 (r + 2) (c2 + 1) ∧ c2 + 1 ≤ j + 1) := ⟨by rw [ho2]; exact WO.out.1.write hkl (fullOf_length _), by have := WO.out.2; omega⟩
          clear ho2
          have e1 := cc1.out _ H.out.chg
          go_wp2_with fail
          clear e1
          obtain ⟨q1, q2⟩ := WD4.out.1.read hkl
          rw [WD4.out.2.2.1] at q1
          have T0 := dread_any g F1 d k w32 (H.out.get 1 rfl) (by omega)
          rw [q1, q2] at T0
          refine (T0).mono ?_
          rintro e w33 ⟨tx, x, rfl, O, C⟩
          replace H : Hid (Side w w33 [ownT tx x ((ints (fullOf 6)).map (Value.int .u8)), DiskT o o2 G2, DiskT g d F1]) := H.out.own O.out C.out
          clear O C
          clear T0 q1 q2
          go_wp2_with fail
          refine (sector_any 6 w33 (by decide)).mono ?_
          rintro e w34 ⟨u, rfl, O, C⟩
          replace H : Hid (Side w w34 [ownT 5 u ((ints (fullOf 6)).map (Value.int .u8)), ownT tx x ((ints (fullOf 6)).map (Value.int .u8)), DiskT o o2 G2, DiskT g d F1]) := H.out.own O.out C.out
          clear O C
          go_wp2_with fail
          refine (same_true _ _ (ints (fullOf 6)) _ (ownT_sl (H.out.get 1 rfl)) (ownT_sl (H.out.get 0 rfl)) (by rw [ints_length, fullOf_length]; decide)).mono ?_
          rintro e w35 ⟨rfl, q, hw⟩
          replace H : Hid (Side w w35 [ownT 5 u ((ints (fullOf 6)).map (Value.int .u8)), ownT tx x ((ints (fullOf 6)).map (Value.int .u8)), DiskT o o2 G2, DiskT g d F1]) := H.out.quiet (by rw [hw]; exact (Chg.refl [] _).drewN _)
          clear hw
          replace H : Hid (Side w w35 [ownT tx x ((ints (fullOf 6)).map (Value.int .u8)), DiskT o o2 G2, DiskT g d F1]) := H.out.tail
          replace H : Hid (Side w w35 [DiskT o o2 G2, DiskT g d F1]) := H.out.tail
          go_wp2_with fail
          exact ⟨⟨j + 1, _, _, _, _, F1, G2, by omega, by go_num, WD4, WO2, H⟩, by simp [intOf]; omega⟩
      · have hne1 : ((m : Int) != (k : Int)) = true := by simp; omega
        have hne2 := hmk
        rcases h5 with h5 | h5
        · have h5b : (a.pos.tmod 5 == 0) = true := by simp [h5]
          have e0 := cc0.out _ H.out.chg
          go_wp2_with fail
          clear e0
          refine (sector_any kd wr hq8).mono ?_
          rintro e w31 ⟨u, rfl, O, C⟩
          replace H : Hid (Side w w31 [ownT 5 u ((ints (fullOf kd)).map (Value.int .u8)), DiskT o o1 G1, DiskT g d F1]) := H.out.own O.out C.out
          clear O C
          go_wp2_with fail
          obtain ⟨d4, hd4⟩ : ∃ e, e = Dk.write d m (fullOf kd) := ⟨_, rfl⟩
          have T0 := dwrite_any g F1 d m u _ w31 (H.out.get 2 rfl) (by omega) (ownT_sl (H.out.get 0 rfl)) (ints_by (fullOf_bs hq8)) (by rw [ints_length, fullOf_length]; decide) (by have := WD.out.1.many; have := WD.out.2.1; omega)
          rw [nats_ints, ← hd4] at T0
          refine (T0).mono ?_
          rintro e w32 ⟨rfl, T⟩
          obtain ⟨F2, H1⟩ := H.out.act 2 rfl T.out
          replace H : Hid (Side w w32 [ownT 5 u ((ints (fullOf kd)).map (Value.int .u8)), DiskT o o1 G1, DiskT g d4 F2]) := H1
          clear H1 T
          replace H : Hid (Side w w32 [DiskT o o1 G1, DiskT g d4 F2]) := H.out.tail
          clear T0
          have WD4 : Hid (Well d4 (r + 2) (c1 + 1) ∧ c1 + 1 ≤ j + 1 + 1 ∧ d4.now k = fullOf 6 ∧ d4.last.getD k [] = fullOf 5) := by
            refine ⟨by rw [hd4]; exact WD.out.1.write hml (fullOf_length _), by have := WD.out.2.1; omega, ?_, by rw [hd4, Dk.write_last]; exact WD.out.2.2.2⟩
            rw [hd4, WD.out.1.now_write hml (fullOf_length _), if_neg hne2]; exact WD.out.2.2.1
          clear hd4
          have e0 := cc0.out _ H.out.chg
          go_wp2_with fail
          clear e0
          refine (sector_any kd w32 hq8).mono ?_
          rintro e w33 ⟨u, rfl, O, C⟩
          replace H : Hid (Side w w33 [ownT 5 u ((ints (fullOf kd)).map (Value.int .u8)), DiskT o o1 G1, DiskT g d4 F2]) := H.out.own O.out C.out
          clear O C
          go_wp2_with fail
          obtain ⟨o2, ho2⟩ : ∃ e, e = Dk.write o1 k (fullOf kd) := ⟨_, rfl⟩
          have T0 := dwrite_any o G1 o1 k u _ w33 (H.out.get 1 rfl) (by omega) (ownT_sl (H.out.get 0 rfl)) (ints_by (fullOf_bs hq8)) (by rw [ints_length, fullOf_length]; decide) (by have := WO.out.1.many; have := WO.out.2; omega)
          rw [nats_ints, ← ho2] at T0
          refine (T0).mono ?_
          rintro e w34 ⟨rfl, T⟩
          obtain ⟨G2, H1⟩ := H.out.act 1 rfl T.out
          replace H : Hid (Side w w34 [ownT 5 u ((ints (fullOf kd)).map (Value.int .u8)), DiskT o o2 G2, DiskT g d4 F2]) := H1
          clear H1 T
          replace H : Hid (Side w w34 [DiskT o o2 G2, DiskT g d4 F2]) := H.out.tail
          clear T0
          have WO2 : Hid (Well o2 (r + 2) (c2 + 1) ∧ c2 + 1 ≤ j + 1) := ⟨by rw [ho2]; exact WO.out.1.write hkl (fullOf_length _), by have := WO.out.2; omega⟩
          clear ho2
          have e1 := cc1.out _ H.out.chg
          go_wp2_with fail
          clear e1
          have T0 := dflush_any o G2 o2 w34 (H.out.get 0 rfl)
          refine (T0).mono ?_
          rintro e w35 ⟨rfl, T⟩
          obtain ⟨G3, H1⟩ := H.out.act 0 rfl T.out
          replace H : Hid (Side w w35 [DiskT o o2.flush G3, DiskT g d4 F2]) := H1
          clear H1 T
          clear T0
          have e3 := cc3.out _ H.out.chg
          go_wp2_with fail
          clear e3
          have T0 := dcrash_any o G3 o2.flush _ a.keep w35 (H.out.get 0 rfl) (RI.out.chg hb H.out.chg).s3 (hold_old H.out RI.out.s3 (i := 0) rfl)
          refine (T0).mono ?_
          rintro e w36 ⟨rfl, T⟩
          obtain ⟨G4, H1⟩ := H.out.act 0 rfl T.out
          replace H : Hid (Side w w36 [DiskT o (o2.flush.crash a.keep) G4, DiskT g d4 F2]) := H1
          clear H1 T
          clear T0
          have WO3 : Hid (Well (o2.flush.crash a.keep) (r + 2) 0 ∧ 0 ≤ j + 1) := ⟨WO2.out.1.flush.crash _, by omega⟩
          go_wp2_with fail
          obtain ⟨q1, q2⟩ := WD4.out.1.read hkl
          rw [WD4.out.2.2.1] at q1
          have T0 := dread_any g F2 d4 k w36 (H.out.get 1 rfl) (by omega)
          rw [q1, q2] at T0
          refine (T0).mono ?_
          rintro e w37 ⟨tx, x, rfl, O, C⟩
          replace H : Hid (Side w w37 [ownT tx x ((ints (fullOf 6)).map (Value.int .u8)), DiskT o (o2.flush.crash a.keep) G4, DiskT g d4 F2]) := H.out.own O.out C.out
          clear O C
          clear T0 q1 q2
          go_wp2_with fail
          refine (sector_any 6 w37 (by decide)).mono ?_
          rintro e w38 ⟨u, rfl, O, C⟩
          replace H : Hid (Side w w38 [ownT 5 u ((ints (fullOf 6)).map (Value.int .u8)), ownT tx x ((ints (fullOf 6)).map (Value.int .u8)), DiskT o (o2.flush.crash a.keep) G4, DiskT g d4 F2]) := H.out.own O.out C.out
          clear O C
          go_wp2_with fail
          refine (same_true _ _ (ints (fullOf 6)) _ (ownT_sl (H.out.get 1 rfl)) (ownT_sl (H.out.get 0 rfl)) (by rw [ints_length, fullOf_length]; decide)).mono ?_
          rintro e w39 ⟨rfl, q, hw⟩
          replace H : Hid (Side w w39 [ownT 5 u ((ints (fullOf 6)).map (Value.int .u8)), ownT tx x ((ints (fullOf 6)).map (Value.int .u8)), DiskT o (o2.flush.crash a.keep) G4, DiskT g d4 F2]) := H.out.quiet (by rw [hw]; exact (Chg.refl [] _).drewN _)
          clear hw
          replace H : Hid (Side w w39 [ownT tx x ((ints (fullOf 6)).map (Value.int .u8)), DiskT o (o2.flush.crash a.keep) G4, DiskT g d4 F2]) := H.out.tail
          replace H : Hid (Side w w39 [DiskT o (o2.flush.crash a.keep) G4, DiskT g d4 F2]) := H.out.tail
          go_wp2_with fail
          exact ⟨⟨j + 1, _, _, _, _, F2, G4, by omega, by go_num, WD4, WO3, H⟩, by simp [intOf]; omega⟩
        · have h5b : (a.pos.tmod 5 == 0) = false := beq_false_of_ne h5
          have e0 := cc0.out _ H.out.chg
          go_wp2_with fail
          clear e0
          refine (sector_any kd wr hq8).mono ?_
          rintro e w31 ⟨u, rfl, O, C⟩
          replace H : Hid (Side w w31 [ownT 5 u ((ints (fullOf kd)).map (Value.int .u8)), DiskT o o1 G1, DiskT g d F1]) := H.out.own O.out C.out
          clear O C
          go_wp2_with fail
          obtain ⟨d4, hd4⟩ : ∃ e, e = Dk.write d m (fullOf kd) := ⟨_, rfl⟩
          have T0 := dwrite_any g F1 d m u _ w31 (H.out.get 2 rfl) (by omega) (ownT_sl (H.out.get 0 rfl)) (ints_by (fullOf_bs hq8)) (by rw [ints_length, fullOf_length]; decide) (by have := WD.out.1.many; have := WD.out.2.1; omega)
          rw [nats_ints, ← hd4] at T0
          refine (T0).mono ?_
          rintro e w32 ⟨rfl, T⟩
          obtain ⟨F2, H1⟩ := H.out.act 2 rfl T.out
          replace H : Hid (Side w w32 [ownT 5 u ((ints (fullOf kd)).map (Value.int .u8)), DiskT o o1 G1, DiskT g d4 F2]) := H1
          clear H1 T
          replace H : Hid (Side w w32 [DiskT o o1 G1, DiskT g d4 F2]) := H.out.tail
          clear T0
          have WD4 : Hid (Well d4 (r + 2) (c1 + 1) ∧ c1 + 1 ≤ j + 1 + 1 ∧ d4.now k = fullOf 6 ∧ d4.last.getD k [] = fullOf 5) := by
            refine ⟨by rw [hd4]; exact WD.out.1.write hml (fullOf_length _), by have := WD.out.2.1; omega, ?_, by rw [hd4, Dk.write_last]; exact WD.out.2.2.2⟩
            rw [hd4, WD.out.1.now_write hml (fullOf_length _), if_neg hne2]; exact WD.out.2.2.1
          clear hd4
          have e0 := cc0.out _ H.out.chg
          go_wp2_with fail
          clear e0
          refine (sector_any kd w32 hq8).mono ?_
          rintro e w33 ⟨u, rfl, O, C⟩
          replace H : Hid (Side w w33 [ownT 5 u ((ints (fullOf kd)).map (Value.int .u8)), DiskT o o1 G1, DiskT g d4 F2]) := H.out.own O.out C.out
          clear O C
          go_wp2_with fail
          obtain ⟨o2, ho2⟩ : ∃ e, e = Dk.write o1 k (fullOf kd) := ⟨_, rfl⟩
          have T0 := dwrite_any o G1 o1 k u _ w33 (H.out.get 1 rfl) (by omega) (ownT_sl (H.out.get 0 rfl)) (ints_by (fullOf_bs hq8)) (by rw [ints_length, fullOf_length]; decide) (by have := WO.out.1.many; have := WO.out.2; omega)
          rw [nats_ints, ← ho2] at T0
          refine (T0).mono ?_
          rintro e w34 ⟨rfl, T⟩
          obtain ⟨G2, H1⟩ := H.out.act 1 rfl T.out
          replace H : Hid (Side w w34 [ownT 5 u ((ints (fullOf kd)).map (Value.int .u8)), DiskT o o2 G2, DiskT g d4 F2]) := H1
          clear H1 T
          replace H : Hid (Side w w34 [DiskT o o2 G2, DiskT g d4 F2]) := H.out.tail
          clear T0
          have WO2 : Hid (Well o2 (r + 2) (c2 + 1) ∧ c2 + 1 ≤ j + 1) := ⟨by rw [ho2]; exact WO.out.1.write hkl (fullOf_length _), by have := WO.out.2; omega⟩
          clear ho2
          have e1 := cc1.out _ H.out.chg
          go_wp2_with fail
          clear e1
          obtain ⟨q1, q2⟩ := WD4.out.1.read hkl
          rw [WD4.out.2.2.1] at q1
          have T0 := dread_any g F2 d4 k w34 (H.out.get 1 rfl) (by omega)
          rw [q1, q2] at T0
          refine (T0).mono ?_
          rintro e w35 ⟨tx, x, rfl, O, C⟩
          replace H : Hid (Side w w35 [ownT tx x ((ints (fullOf 6)).map (Value.int .u8)), DiskT o o2 G2, DiskT g d4 F2]) := H.out.own O.out C.out
          clear O C
          clear T0 q1 q2
          go_wp2_with fail
          refine (sector_any 6 w35 (by decide)).mono ?_
          rintro e w36 ⟨u, rfl, O, C⟩
          replace H : Hid (Side w w36 [ownT 5 u ((ints (fullOf 6)).map (Value.int .u8)), ownT tx x ((ints (fullOf 6)).map (Value.int .u8)), DiskT o o2 G2, DiskT g d4 F2]) := H.out.own O.out C.out
          clear O C
          go_wp2_with fail
          refine (same_true _ _ (ints (fullOf 6)) _ (ownT_sl (H.out.get 1 rfl)) (ownT_sl (H.out.get 0 rfl)) (by rw [ints_length, fullOf_length]; decide)).mono ?_
          rintro e w37 ⟨rfl, q, hw⟩
          replace H : Hid (Side w w37 [ownT 5 u ((ints (fullOf 6)).map (Value.int .u8)), ownT tx x ((ints (fullOf 6)).map (Value.int .u8)), DiskT o o2 G2, DiskT g d4 F2]) := H.out.quiet (by rw [hw]; exact (Chg.refl [] _).drewN _)
          clear hw
          replace H : Hid (Side w w37 [ownT tx x ((ints (fullOf 6)).map (Value.int .u8)), DiskT o o2 G2, DiskT g d4 F2]) := H.out.tail
          replace H : Hid (Side w w37 [DiskT o o2 G2, DiskT g d4 F2]) := H.out.tail
          go_wp2_with fail
          exact ⟨⟨j + 1, _, _, _, _, F2, G2, by omega, by go_num, WD4, WO2, H⟩, by simp [intOf]; omega⟩
    · obtain rfl : j = es.length := by omega
      clear hlt
      go_wp2_with fail
      have T0 := dcrash_any g F1 d (.slice none 0 0) [] wr (H.out.get 1 rfl) (.inl ⟨rfl, _, _, rfl⟩) (fun h => absurd rfl h)
      obtain ⟨d5, hd5⟩ : ∃ e, e = d.crash [] := ⟨_, rfl⟩
      rw [← hd5] at T0
      refine (T0).mono ?_
      rintro e w61 ⟨rfl, T⟩
      obtain ⟨F5, H1⟩ := H.out.act 1 rfl T.out
      replace H : Hid (Side w w61 [DiskT o o1 G1, DiskT g d5 F5]) := H1
      clear H1 T
      clear T0
      have W5 : Well d5 (r + 2) 0 := by rw [hd5]; exact WD.out.1.crash []
      have N5 : d5.now k = fullOf 5 := by rw [hd5, WD.out.1.crash_lose]; exact WD.out.2.2.2
      go_wp2_with fail
      obtain ⟨q1, q2⟩ := W5.read hkl
      rw [N5] at q1
      have T0 := dread_any g F5 d5 k w61 (H.out.get 1 rfl) (by omega)
      rw [q1, q2] at T0
      clear N5 W5
      refine (T0).mono ?_
      rintro e w62 ⟨tx, x, rfl, O, C⟩
      replace H : Hid (Side w w62 [ownT tx x ((ints (fullOf 5)).map (Value.int .u8)), DiskT o o1 G1, DiskT g d5 F5]) := H.out.own O.out C.out
      clear O C
      clear T0 q1 q2
      go_wp2_with fail
      refine (sector_any 5 w62 (by decide)).mono ?_
      rintro e w63 ⟨u, rfl, O, C⟩
      replace H : Hid (Side w w63 [ownT 5 u ((ints (fullOf 5)).map (Value.int .u8)), ownT tx x ((ints (fullOf 5)).map (Value.int .u8)), DiskT o o1 G1, DiskT g d5 F5]) := H.out.own O.out C.out
      clear O C
      go_wp2_with fail
      refine (same_true _ _ (ints (fullOf 5)) _ (ownT_sl (H.out.get 1 rfl)) (ownT_sl (H.out.get 0 rfl)) (by rw [ints_length, fullOf_length]; decide)).mono ?_
      rintro e w64 ⟨rfl, q, hw⟩
      replace H : Hid (Side w w64 [ownT 5 u ((ints (fullOf 5)).map (Value.int .u8)), ownT tx x ((ints (fullOf 5)).map (Value.int .u8)), DiskT o o1 G1, DiskT g d5 F5]) := H.out.quiet (by rw [hw]; exact (Chg.refl [] _).drewN _)
      clear hw
      go_wp2_with fail
      go_ret
      exact ⟨rfl, H.out.chg⟩

end Go.Proofs.Ytjkjkennplfgaaa
