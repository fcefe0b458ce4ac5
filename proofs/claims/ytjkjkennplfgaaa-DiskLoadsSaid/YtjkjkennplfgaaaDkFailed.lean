/-
  DiskFailed walked. By an AI agent.
-/
import Derived.Test.YtjkjkennplfgaaaDkKnown
import Derived.Test.YtjkjkennplfgaaaGInMore
namespace Go.Proofs.Ytjkjkennplfgaaa
open Go.RowKit

theorem Dk.write_bad (d : Dk) (a : Int) (b : List Nat) : (d.write a b).bad = d.bad := by unfold Dk.write; split <;> rfl
theorem Dk.write_last (d : Dk) (a : Int) (b : List Nat) : (d.write a b).last = d.last := by unfold Dk.write; split <;> rfl
theorem Dk.write_many (d : Dk) (a : Int) (b : List Nat) : (d.write a b).cache.length ≤ d.cache.length + 1 := by
  unfold Dk.write
  split
  · simp
  · simp
theorem Dk.new_last (n : Nat) : (Dk.new n).last.length = n := by simp [Dk.new]

theorem tmod_nat {a : Int} (h : 0 ≤ a) (m : Nat) (hm : 0 < m) : ∃ r : Nat, Int.tmod a (m : Int) = (r : Int) ∧ r < m := by
  obtain ⟨k, rfl⟩ := Int.eq_ofNat_of_zero_le h
  exact ⟨k % m, by rw [Int.ofNat_tmod], Nat.mod_lt _ hm⟩

set_option maxHeartbeats 4000000 in
set_option maxRecDepth 100000 in
theorem diskFailed_walk (s at_ : Int) (v k : Value) (xs : List Int) (keep : List Bool) (w : World) (hs : 0 ≤ s ∧ s ≤ 255) (ha : -9223372036854775808 ≤ at_ ∧ at_ ≤ 9223372036854775807) (hv : Sl w v xs) (hby : By xs) (hb : xs.length ≤ 140737488355328) (hk : RdV w k (keep.map Value.bool)) :
    Calls Try.prog 5 #[.int .u8 s, .int .i64 at_, v, k] w fun e w' => e = .returned (.bool true) ∧ Chg [] w w' := by
  obtain ⟨r, hr, hr9⟩ := tmod_nat hs.1 9 (by decide)
  rw [show ((9 : Nat) : Int) = 9 from rfl] at hr
  have hr0 : (0 : Int) ≤ r := Int.natCast_nonneg _
  have hr1 : (r : Int) < 9 := by omega
  have HV := Lib.hid hv
  have HY := Lib.hid hby
  have HK := Lib.hid hk
  obtain ⟨vo, vc, rfl⟩ := hv.slice
  obtain ⟨ko, kc, rfl⟩ := hk.slice
  rw [List.length_map] at HK ⊢
  clear hv hby hk
  go_enter Try.func5, Try.ntmps5
  go_wp2_with fail
  refine (dnew_any _ w (by omega)).mono ?_
  rintro e w1 (⟨h, _⟩ | ⟨_, g, F, rfl, D, N, C⟩)
  · exact absurd ⟨by omega, by omega⟩ h
  obtain ⟨d0, hd0⟩ : ∃ d, d = Dk.new ((r : Int) + 1).toNat := ⟨_, rfl⟩
  have H : Hid (Side w w1 [DiskT g d0 F]) := by rw [hd0]; exact (Side.nil (Chg.refl _ _)).add C.out D.out N.out
  have b0 : d0.bad = false := by rw [hd0]; rfl
  have l0 : d0.last.length = r + 1 := by rw [hd0, Dk.new_last]; omega
  have c0 : d0.cache.length = 0 := by rw [hd0]; rfl
  clear D N C hd0
  go_wp2_with fail
  refine (dknown_any w1).mono ?_
  rintro e w2 ⟨rfl, C⟩
  replace H : Hid (Side w w2 [DiskT g d0 F]) := H.out.quiet C.out
  clear C
  go_wp2_with fail
  refine (sector_any 1 w2 (by decide)).mono ?_
  rintro e w3 ⟨u, rfl, O, C⟩
  replace H : Hid (Side w w3 [ownT 5 u ((ints (fullOf 1)).map (Value.int .u8)), DiskT g d0 F]) := H.out.own O.out C.out
  clear O C
  go_wp2_with fail
  obtain ⟨d1, hd1⟩ : ∃ d, d = d0.write 0 (fullOf 1) := ⟨_, rfl⟩
  have T0 := dwrite_any g F d0 0 u _ w3 (H.out.get 1 rfl) (by decide) (ownT_sl (H.out.get 0 rfl)) (ints_by (fullOf_bs (by decide))) (by rw [ints_length, fullOf_length]; decide) (by omega)
  rw [nats_ints, ← hd1] at T0
  refine (T0).mono ?_
  rintro e w4 ⟨rfl, T⟩
  obtain ⟨F1, H1⟩ := H.out.act 1 rfl T.out
  replace H : Hid (Side w w4 [ownT 5 u ((ints (fullOf 1)).map (Value.int .u8)), DiskT g d1 F1]) := H1
  clear H1 T
  replace H : Hid (Side w w4 [DiskT g d1 F1]) := H.out.tail
  clear T0
  have b1 : d1.bad = false := by rw [hd1, Dk.write_bad]; exact b0
  have l1 : d1.last.length = r + 1 := by rw [hd1, Dk.write_last]; exact l0
  clear hd1 b0 l0 c0
  go_wp2_with fail
  have T0 := dfailed_any g F1 d1 w4 (H.out.get 0 rfl)
  rw [b1] at T0
  refine (T0).mono ?_
  rintro e w5 ⟨rfl, q, hw⟩
  replace H : Hid (Side w w5 [DiskT g d1 F1]) := H.out.quiet (by rw [hw]; exact (Chg.refl [] _).drewN _)
  clear hw
  clear T0
  go_wp2_with fail
  obtain ⟨d2, hd2⟩ : ∃ d, d = d1.fail := ⟨_, rfl⟩
  have T0 := dfail_any g F1 d1 w5 (H.out.get 0 rfl)
  rw [← hd2] at T0
  refine (T0).mono ?_
  rintro e w6 ⟨rfl, T⟩
  obtain ⟨F2, H1⟩ := H.out.act 0 rfl T.out
  replace H : Hid (Side w w6 [DiskT g d2 F2]) := H1
  clear H1 T
  clear T0
  have l2 : d2.last.length = r + 1 := by rw [hd2]; exact l1
  have hbad : d2.bad = true := by rw [hd2]; rfl
  have hc2 : d2.cache = [] := by rw [hd2]; rfl
  have BA := Lib.hid (Dk.bad_all hbad)
  clear b1 l1 hd2
  go_wp2_with fail
  go_loopw [13] (fun i wr => ∃ j : Nat, j ≤ 2 ∧ i = .int .i64 j ∧ ∃ F, Hid (Side w wr [DiskT g d2 F])) (fun i _ => 2 - (intOf i).toNat)
  case atStart => exact ⟨0, by decide, rfl, F2, H⟩
  case round =>
    obtain ⟨j, hj, rfl, F3, HH⟩ := hrel
    clear H
    have H : Hid (Side w wr [DiskT g d2 F3]) := HH
    clear HH
    have hj0 : (0 : Int) ≤ j := Int.natCast_nonneg _
    by_cases hlt : j < 2
    · have hj1 : (j : Int) < 2 := by omega
      go_wp2_with fail
      have T0 := dread_any g F3 d2 at_ wr (H.out.get 0 rfl) ha
      rw [(BA.out.1 at_).1, (BA.out.1 at_).2] at T0
      refine (T0).mono ?_
      rintro e w21 ⟨tx, x, rfl, O, C⟩
      rw [show ([] : List Nat).length = 0 from rfl] at O
      obtain ⟨xo, xc, rfl⟩ := owns_slice O.out
      replace H : Hid (Side w w21 [DiskT g d2 F3]) := H.out.quiet C.out
      clear O C
      clear T0
      go_wp2_with fail
      have T0 := dwrite_any g F3 d2 at_ _ xs w21 (H.out.get 0 rfl) ha (HV.out.chgNil H.out.chg) HY.out hb (by rw [hc2]; decide)
      rw [(BA.out.2.1 at_ (nats xs)).1, (BA.out.2.1 at_ (nats xs)).2] at T0
      refine (T0).mono ?_
      rintro e w22 ⟨rfl, T⟩
      obtain ⟨F4, H1⟩ := H.out.act 0 rfl T.out
      replace H : Hid (Side w w22 [DiskT g d2 F4]) := H1
      clear H1 T
      clear T0
      go_wp2_with fail
      have T0 := dflush_any g F4 d2 w22 (H.out.get 0 rfl)
      rw [BA.out.2.2.1, BA.out.2.2.2.1] at T0
      refine (T0).mono ?_
      rintro e w23 ⟨rfl, T⟩
      obtain ⟨F5, H1⟩ := H.out.act 0 rfl T.out
      replace H : Hid (Side w w23 [DiskT g d2 F5]) := H1
      clear H1 T
      clear T0
      go_wp2_with fail
      have T0 := dpending_any g F5 d2 w23 (H.out.get 0 rfl) (by rw [hc2]; decide)
      rw [show d2.pending = [] from by unfold Dk.pending; rw [hc2]; rfl] at T0
      refine (T0).mono ?_
      rintro e w24 ⟨p, rfl, O, C⟩
      rw [show ([] : List Nat).length = 0 from rfl] at O
      obtain ⟨po, pc, rfl⟩ := owns_slice O.out
      replace H : Hid (Side w w24 [DiskT g d2 F5]) := H.out.quiet C.out
      clear O C
      clear T0
      go_wp2_with fail
      have T0 := dimage_any g F5 d2 w24 (H.out.get 0 rfl)
      rw [BA.out.2.2.2.2.2] at T0
      refine (T0).mono ?_
      rintro e w25 ⟨m, rfl, O, C⟩
      rw [show ([] : List Nat).length = 0 from rfl] at O
      obtain ⟨mo, mc, rfl⟩ := owns_slice O.out
      replace H : Hid (Side w w25 [DiskT g d2 F5]) := H.out.quiet C.out
      clear O C
      clear T0
      go_wp2_with fail
      have T0 := dcrash_any g F5 d2 _ keep w25 (H.out.get 0 rfl) (HK.out.chgNil H.out.chg) (hold_old H.out HK.out (i := 0) rfl)
      rw [BA.out.2.2.2.2.1 keep] at T0
      refine (T0).mono ?_
      rintro e w26 ⟨rfl, T⟩
      obtain ⟨F6, H1⟩ := H.out.act 0 rfl T.out
      replace H : Hid (Side w w26 [DiskT g d2 F6]) := H1
      clear H1 T
      clear T0
      go_wp2_with fail
      have T0 := dfailed_any g F6 d2 w26 (H.out.get 0 rfl)
      rw [hbad] at T0
      refine (T0).mono ?_
      rintro e w27 ⟨rfl, q, hw⟩
      replace H : Hid (Side w w27 [DiskT g d2 F6]) := H.out.quiet (by rw [hw]; exact (Chg.refl [] _).drewN _)
      clear hw
      clear T0
      go_wp2_with fail
      have T0 := dsectors_any g F6 d2 w27 (H.out.get 0 rfl)
      rw [l2] at T0
      refine (T0).mono ?_
      rintro e w28 ⟨rfl, q, hw⟩
      replace H : Hid (Side w w28 [DiskT g d2 F6]) := H.out.quiet (by rw [hw]; exact (Chg.refl [] _).drewN _)
      clear hw
      clear T0
      go_wp2_with fail
      exact ⟨⟨j + 1, by omega, by go_num, F6, H⟩, by simp [intOf]; omega⟩
    · obtain rfl : j = 2 := by omega
      go_wp2_with fail
      go_ret
      exact ⟨rfl, H.out.chg⟩

end Go.Proofs.Ytjkjkennplfgaaa
