/-
  LeHalves: the walk. By an AI agent.
-/
import Derived.Test.YtbinoailpceonaaKnown
import Derived.Test.YtbinoailpceonaaLeReadRest
namespace Go.Proofs.Ytbinoailpceonaa
open Go.RowKit

/-- A packer of 8 bytes into which the first n bytes of v are put. -/
def half (n : Nat) (v : Int) : PS := ⟨leBytes n v ++ List.replicate (8 - n) 0, n, 0⟩

theorem half_put (k n : Nat) (v x : Int) (h : k + n ≤ 8) (hx : leBytes n x = leBytes n (v / 2 ^ (8 * k))) : (half k v).put (leBytes n x) = half (k + n) v := by
  have hl : (leBytes k v ++ List.replicate (8 - k) (0 : Int)).length = 8 := by simp [leBytes_length]; omega
  unfold half PS.put
  rw [if_pos rfl, if_pos (by simp only [hl, leBytes_length]; exact h)]
  simp only [lay, leBytes_length, PS.mk.injEq, and_true, hx]
  rw [List.take_left' (leBytes_length _ _), leBytes_add]
  congr 1
  rw [List.drop_append, List.drop_eq_nil_of_le (by rw [leBytes_length]; omega), leBytes_length, List.nil_append, List.drop_replicate]
  congr 1
  omega

theorem half_zero (v : Int) : (⟨List.replicate 8 0, 0, 0⟩ : PS) = half 0 v := by simp [half, leBytes]
theorem half_full (v : Int) : (half 8 v).bs = leBytes 8 v := by simp [half]
theorem half_bad (n : Nat) (v : Int) : (half n v).bad = 0 := rfl
theorem half_len (v : Int) : (half 8 v).bs.length = 8 := by rw [half_full, leBytes_length]

theorem Sl.lt {w : World} {v : Value} {xs : List Int} (h : Sl w v xs) (hx : 0 < xs.length) : ∀ k, v.ownBlock = some k → k < w.heap.size := by
  intro k hk
  rcases h with ⟨rfl, _⟩ | ⟨g, o, c', hv, hb, hc⟩
  · simp at hx
  · rw [hv] at hk
    simp [Value.ownBlock] at hk
    omega

theorem rgot0 (v : Int) : (RS.mk (leBytes 8 v) 0 0 0).got 4 = leBytes 4 v := by
  unfold RS.got
  rw [if_pos rfl, if_pos (by simp [leBytes_length]), List.drop_zero, show (8 : Nat) = 4 + 4 from rfl, leBytes_add]
  exact List.take_left' (leBytes_length _ _)
theorem rnext0 (v : Int) : (RS.mk (leBytes 8 v) 0 0 0).next 4 = ⟨leBytes 8 v, 4, 0, 0⟩ := by
  unfold RS.next
  rw [if_pos rfl, if_pos (by simp [leBytes_length])]
theorem rgot4 (v : Int) : (RS.mk (leBytes 8 v) 4 0 0).got 4 = leBytes 4 (v / 2 ^ (8 * 4)) := by
  unfold RS.got
  rw [if_pos rfl, if_pos (by simp [leBytes_length]), show (8 : Nat) = 4 + 4 from rfl, leBytes_add]
  simp only
  rw [List.drop_left' (leBytes_length _ _), List.take_of_length_le (by rw [leBytes_length]; exact Nat.le_refl _)]
theorem rgot8 (v : Int) : (RS.mk (leBytes 8 v) 0 0 0).got 8 = leBytes 8 v := by
  unfold RS.got
  rw [if_pos rfl, if_pos (by simp [leBytes_length]), List.drop_zero, List.take_of_length_le (by rw [leBytes_length]; exact Nat.le_refl _)]

theorem two16 (k : Nat) : (2 : Int) ^ (16 * k) = 2 ^ (8 * (2 * k)) := by rw [← Nat.mul_assoc]

set_option maxHeartbeats 2000000 in
set_option maxRecDepth 100000 in
theorem halves_walk (v : Int) (w : World) (hv0 : 0 ≤ v) (hv1 : v ≤ 18446744073709551615) :
    Calls Try.prog 6 #[.int .u64 v] w fun e w' => e = .returned (.bool true) ∧ Chg [] w w' := by
  go_enter Try.func6, Try.ntmps6
  go_wp2_with fail
  refine (new_ok 8 w (by decide)).mono ?_
  rintro e w1 ⟨b1, g1, rfl, hp1, hc1, hb1, hg1, ub1, ug1⟩
  have P1 := Lib.hid hp1
  have C := Lib.hid hc1
  have z1 := hc1.size
  clear hp1 hc1
  go_wp2_with fail
  refine (new_ok 8 w1 (by decide)).mono ?_
  rintro e w2 ⟨b2, g2, rfl, hp2, hc2, hb2, hg2, ub2, ug2⟩
  replace P1 := Lib.hid (P1.out.chg hc2 (by simp) (by simp))
  have P2 := Lib.hid hp2
  replace C := Lib.hid (C.out.trans hc2)
  have z2 := hc2.size
  clear hp2 hc2
  go_wp2_with fail
  refine (new_ok 8 w2 (by decide)).mono ?_
  rintro e w3 ⟨b3, g3, rfl, hp3, hc3, hb3, hg3, ub3, ug3⟩
  replace P1 := Lib.hid (P1.out.chg hc3 (by simp) (by simp))
  replace P2 := Lib.hid (P2.out.chg hc3 (by simp) (by simp))
  have P3 := Lib.hid hp3
  replace C := Lib.hid (C.out.trans hc3)
  have z3 := hc3.size
  clear hp3 hc3
  go_wp2_with fail
  refine (new_ok 8 w3 (by decide)).mono ?_
  rintro e w4 ⟨b4, g4, rfl, hp4, hc4, hb4, hg4, ub4, ug4⟩
  replace P1 := Lib.hid (P1.out.chg hc4 (by simp) (by simp))
  replace P2 := Lib.hid (P2.out.chg hc4 (by simp) (by simp))
  replace P3 := Lib.hid (P3.out.chg hc4 (by simp) (by simp))
  have P4 := Lib.hid hp4
  replace C := Lib.hid (C.out.trans hc4)
  have z4 := hc4.size
  clear hp4 hc4
  go_wp2_with fail
  refine (known_any w4).mono ?_
  rintro e w5 ⟨rfl, hc5⟩
  replace P1 := Lib.hid (P1.out.chg hc5 (by simp) (by simp))
  replace P2 := Lib.hid (P2.out.chg hc5 (by simp) (by simp))
  replace P3 := Lib.hid (P3.out.chg hc5 (by simp) (by simp))
  replace P4 := Lib.hid (P4.out.chg hc5 (by simp) (by simp))
  replace C := Lib.hid (C.out.trans hc5)
  have z5 := hc5.size
  clear hc5
  rw [half_zero v] at P1 P2 P3 P4
  go_wp2_with fail
  refine (u64_any b1 g1 _ v w5 P1.out hv0 hv1).mono ?_
  rintro e w6 ⟨rfl, hp, hc⟩
  rw [half_put 0 8 v v (by decide) (by simp)] at hp
  replace P1 := Lib.hid hp
  replace P2 := Lib.hid (P2.out.chg hc (by simp; omega) (by simp; omega))
  replace P3 := Lib.hid (P3.out.chg hc (by simp; omega) (by simp; omega))
  replace P4 := Lib.hid (P4.out.chg hc (by simp; omega) (by simp; omega))
  replace C := Lib.hid (C.out.fresh hc (by simp; omega))
  have z6 := hc.size
  clear hp hc
  go_wp2_with fail
  refine (u32_any b2 g2 _ (v % 4294967296) w6 P2.out (by omega) (by omega)).mono ?_
  rintro e w7 ⟨rfl, hp, hc⟩
  rw [half_put 0 4 v (v % 4294967296) (by decide) (by rw [show (4294967296 : Int) = 2 ^ (8 * 4) from rfl, leBytes_mod]; simp)] at hp
  replace P1 := Lib.hid (P1.out.chg hc (by simp; omega) (by simp; omega))
  replace P2 := Lib.hid hp
  replace P3 := Lib.hid (P3.out.chg hc (by simp; omega) (by simp; omega))
  replace P4 := Lib.hid (P4.out.chg hc (by simp; omega) (by simp; omega))
  replace C := Lib.hid (C.out.fresh hc (by simp; omega))
  have z7 := hc.size
  clear hp hc
  go_wp2_with fail
  refine (u32_any b2 g2 _ (v / 4294967296) w7 P2.out (by omega) (by omega)).mono ?_
  rintro e w8 ⟨rfl, hp, hc⟩
  rw [half_put (0 + 4) 4 v (v / 4294967296) (by decide) rfl] at hp
  replace P1 := Lib.hid (P1.out.chg hc (by simp; omega) (by simp; omega))
  replace P2 := Lib.hid hp
  replace P3 := Lib.hid (P3.out.chg hc (by simp; omega) (by simp; omega))
  replace P4 := Lib.hid (P4.out.chg hc (by simp; omega) (by simp; omega))
  replace C := Lib.hid (C.out.fresh hc (by simp; omega))
  have z8 := hc.size
  clear hp hc
  go_wp2_with fail
  go_loopw [11] (fun i wr => ∃ k : Nat, k ≤ 4 ∧ i = .int .i64 k ∧ Hid (Pk wr b3 g3 (half (2 * k) v)) ∧ Hid (Chg [b3, g3] w8 wr)) (fun i _ => 4 - (intOf i).toNat)
  case atStart => exact ⟨0, by omega, rfl, P3, Chg.refl _ _⟩
  case round =>
    obtain ⟨k, hk, rfl, HP, HC⟩ := hrel
    clear P3
    by_cases hlt : k < 4
    · go_wp2_with fail
      rw [wrap_u16, two16]
      have h0 := Int.emod_nonneg (v / 2 ^ (8 * (2 * k))) (show (65536 : Int) ≠ 0 by decide)
      have h1 := Int.emod_lt_of_pos (v / 2 ^ (8 * (2 * k))) (show (0 : Int) < 65536 by decide)
      refine (u16_any b3 g3 _ (v / 2 ^ (8 * (2 * k)) % 65536) wr HP.out h0 (by omega)).mono ?_
      rintro e wn ⟨rfl, hp, hc⟩
      rw [half_put (2 * k) 2 v (v / 2 ^ (8 * (2 * k)) % 65536) (by omega) (by rw [show (65536 : Int) = 2 ^ (8 * 2) from rfl, leBytes_mod])] at hp
      clear h0 h1
      have HP' := Lib.hid hp
      have HC' := Lib.hid hc
      clear hp hc
      go_wp2_with fail
      exact ⟨⟨k + 1, by omega, by go_num, HP'.out, HC.out.trans HC'.out⟩, by simp [intOf]; omega⟩
    · obtain rfl : k = 4 := by omega
      rw [show ((4 : Nat) : Int) = 4 from rfl]
      replace P1 := Lib.hid (P1.out.chg HC.out (by simp; omega) (by simp; omega))
      replace P2 := Lib.hid (P2.out.chg HC.out (by simp; omega) (by simp; omega))
      replace P4 := Lib.hid (P4.out.chg HC.out (by simp; omega) (by simp; omega))
      replace C := Lib.hid (C.out.fresh HC.out (by simp; omega))
      have z9 := HC.out.size
      clear HC hk hlt
      obtain ⟨w9, rfl⟩ : ∃ w9 : World, w9 = wr := ⟨_, rfl⟩
      go_wp2_with fail
      go_loopw [12] (fun i wr => ∃ k : Nat, k ≤ 8 ∧ i = .int .i64 k ∧ Hid (Pk wr b4 g4 (half k v)) ∧ Hid (Chg [b4, g4] w9 wr)) (fun i _ => 8 - (intOf i).toNat)
      case atStart => exact ⟨0, by omega, rfl, P4, Chg.refl _ _⟩
      case round =>
        obtain ⟨k, hk, rfl, HQ, HC⟩ := hrel
        clear P4
        by_cases hlt : k < 8
        · go_wp2_with fail
          refine (u8_any b4 g4 _ (v / 2 ^ (8 * k) % 256) wr HQ.out (Int.emod_nonneg _ (by decide)) (by have := Int.emod_lt_of_pos (v / 2 ^ (8 * k)) (show (0 : Int) < 256 by decide); omega)).mono ?_
          rintro e wn ⟨rfl, hp, hc⟩
          rw [half_put k 1 v (v / 2 ^ (8 * k) % 256) (by omega) (by rw [show (256 : Int) = 2 ^ (8 * 1) from rfl, leBytes_mod])] at hp
          have HQ' := Lib.hid hp
          have HC' := Lib.hid hc
          clear hp hc
          go_wp2_with fail
          exact ⟨⟨k + 1, by omega, by go_num, HQ'.out, HC.out.trans HC'.out⟩, by simp [intOf]; omega⟩
        · obtain rfl : k = 8 := by omega
          rw [show ((8 : Nat) : Int) = 8 from rfl]
          replace P1 := Lib.hid (P1.out.chg HC.out (by simp; omega) (by simp; omega))
          replace P2 := Lib.hid (P2.out.chg HC.out (by simp; omega) (by simp; omega))
          replace HP := Lib.hid (HP.out.chg HC.out (by simp; omega) (by simp; omega))
          replace C := Lib.hid (C.out.fresh HC.out (by simp; omega))
          have z10 := HC.out.size
          clear HC hk hlt
          obtain ⟨w10, rfl⟩ : ∃ w10 : World, w10 = wr := ⟨_, rfl⟩
          go_wp2_with fail
          refine (bytes_any b1 g1 _ w10 P1.out).mono ?_
          rintro e wa (⟨h, _⟩ | ⟨_, va, rfl, hv, hc⟩)
          · exact absurd rfl h
          have VA := Lib.hid (Sl.owned hv)
          replace P2 := Lib.hid (P2.out.chg hc (by simp) (by simp))
          replace HP := Lib.hid (HP.out.chg hc (by simp) (by simp))
          replace HQ := Lib.hid (HQ.out.chg hc (by simp) (by simp))
          replace C := Lib.hid (C.out.trans hc)
          clear hv hc P1
          go_wp2_with fail
          refine (bytes_any b2 g2 _ wa P2.out).mono ?_
          rintro e wb (⟨h, _⟩ | ⟨_, vb, rfl, hv, hc⟩)
          · exact absurd rfl h
          have VB := Lib.hid (Sl.owned hv)
          replace VA := Lib.hid (VA.out.chg hc (by simp))
          replace HP := Lib.hid (HP.out.chg hc (by simp) (by simp))
          replace HQ := Lib.hid (HQ.out.chg hc (by simp) (by simp))
          replace C := Lib.hid (C.out.trans hc)
          clear hv hc P2
          go_wp2_with fail
          refine (bytes_any b3 g3 _ wb HP.out).mono ?_
          rintro e wc (⟨h, _⟩ | ⟨_, vc, rfl, hv, hc⟩)
          · exact absurd rfl h
          have VC := Lib.hid (Sl.owned hv)
          replace VA := Lib.hid (VA.out.chg hc (by simp))
          replace VB := Lib.hid (VB.out.chg hc (by simp))
          replace HQ := Lib.hid (HQ.out.chg hc (by simp) (by simp))
          replace C := Lib.hid (C.out.trans hc)
          clear hv hc HP
          go_wp2_with fail
          refine (bytes_any b4 g4 _ wc HQ.out).mono ?_
          rintro e wd (⟨h, _⟩ | ⟨_, vd, rfl, hv, hc⟩)
          · exact absurd rfl h
          have VD := Lib.hid (Sl.owned hv)
          replace VA := Lib.hid (VA.out.chg hc (by simp))
          replace VB := Lib.hid (VB.out.chg hc (by simp))
          replace VC := Lib.hid (VC.out.chg hc (by simp))
          replace C := Lib.hid (C.out.trans hc)
          clear hv hc HQ
          rw [show (half (0 + 8) v).bs = leBytes 8 v from half_full v] at VA
          rw [show (half (0 + 4 + 4) v).bs = leBytes 8 v from half_full v] at VB
          rw [show (half (2 * 4) v).bs = leBytes 8 v from half_full v] at VC
          rw [half_full] at VD
          clear z1 z2 z3 z4 z5 z6 z7 z8 z9 z10 hb1 hb2 hb3 hb4 hg1 hg2 hg3 hg4 ub1 ub2 ub3 ub4 ug1 ug2 ug3 ug4
          have hsl := VA.out.slice
          rw [leBytes_length] at hsl
          obtain ⟨ao, ac, rfl⟩ := hsl
          go_wp2_with fail
          obtain ⟨we, hwe⟩ : ∃ we : World, we = wd := ⟨_, rfl⟩
          go_loopw [21] (fun i wr => ∃ k : Nat, k ≤ 8 ∧ i = .int .i64 k ∧ ∃ q, wr = wd.drewN q) (fun i _ => 8 - (intOf i).toNat)
          case atStart => exact ⟨0, by omega, rfl, 0, rfl⟩
          case round =>
            obtain ⟨k, hk, rfl, q, rfl⟩ := hrel
            by_cases hlt : k < 8
            · have LA : ∃ g o, ao = some ⟨g, o, none⟩ ∧ wd.cell? ⟨g, o + k, none⟩ = some (.int .u8 (v / 2 ^ (8 * k) % 256)) := by
                rcases VA.out with ⟨h0, _⟩ | ⟨g, o, c', hv, hb, hc⟩
                · exact absurd (congrArg List.length h0) (by rw [leBytes_length]; decide)
                · obtain ⟨rfl, _, rfl⟩ : ao = some ⟨g, o, none⟩ ∧ 8 = (leBytes 8 v).length ∧ ac = c' := by simpa using hv
                  exact ⟨g, o, rfl, by rw [hc k (by rw [leBytes_length]; exact hlt), leBytes_get 8 v k hlt]⟩
              obtain ⟨g, o, rfl, c1⟩ := LA
              have hi0 : (0 : Int) ≤ k := Int.natCast_nonneg _
              have hi1 : (k : Int) < 8 := by omega
              go_wp2_with fail
              go_quiet (fail)
              go_wp2_with fail
              exact ⟨⟨k + 1, by omega, by go_num, _, rfl⟩, by simp [intOf]; omega⟩
            · obtain rfl : k = 8 := by omega
              rw [show ((8 : Nat) : Int) = 8 from rfl]
              go_wp2_with fail
              have c0 : Chg [] wd (wd.drewN q) := (Chg.refl [] _).drewN q
              replace VA := Lib.hid (VA.out.chg c0 (by simp))
              replace VB := Lib.hid (VB.out.chg c0 (by simp))
              replace VC := Lib.hid (VC.out.chg c0 (by simp))
              replace VD := Lib.hid (VD.out.chg c0 (by simp))
              replace C := Lib.hid (C.out.trans c0)
              clear c0 hk hlt
              generalize wd.drewN q = we at *
              refine (read_any _ _ we VA.out (by rw [leBytes_length]; decide) (By.le _ _)).mono ?_
              rintro e wf ⟨rb, rv, rfl, hr, hc, hb0, hb1⟩
              have h8 : 0 < (leBytes 8 v).length := by rw [leBytes_length]; decide
              have LA := Lib.hid (VA.out.lt h8)
              have LB := Lib.hid (VB.out.lt h8)
              have LC := Lib.hid (VC.out.lt h8)
              have LD := Lib.hid (VD.out.lt h8)
              replace VA := Lib.hid (VA.out.chg hc (by simp))
              replace VB := Lib.hid (VB.out.chg hc (by simp))
              replace VC := Lib.hid (VC.out.chg hc (by simp))
              replace VD := Lib.hid (VD.out.chg hc (by simp))
              have zC := C.out.size
              replace C := Lib.hid (C.out.trans hc)
              have HR := Lib.hid hr
              have zf := hc.size
              have hrl := hr.pb.lt
              have HRS := Lib.hid (hr.sl.lt h8)
              clear hr hc hb1 h8
              go_wp2_with fail
              refine (read_any _ _ wf VA.out (by rw [leBytes_length]; decide) (By.le _ _)).mono ?_
              rintro e wg ⟨rb2, rv2, rfl, hr2, hc, hb2, hb3⟩
              replace VA := Lib.hid (VA.out.chg hc (by simp))
              replace VB := Lib.hid (VB.out.chg hc (by simp))
              replace VC := Lib.hid (VC.out.chg hc (by simp))
              replace VD := Lib.hid (VD.out.chg hc (by simp))
              replace HR := Lib.hid (HR.out.chg hc (by simp) (by simp))
              replace C := Lib.hid (C.out.trans hc)
              have HR2 := Lib.hid hr2
              have HB3 := Lib.hid hb3
              have zg := hc.size
              clear hr2 hc hb3
              go_wp2_with fail
              have hu := u32R_any _ _ _ wg HR.out
              rw [rgot0, rnext0, leNum_leBytes] at hu
              refine hu.mono ?_
              clear hu
              rintro e wh ⟨rfl, hr, hc⟩
              replace VA := Lib.hid (VA.out.chg hc (fun k hk => by have := LA.out k hk; simp; omega))
              replace VB := Lib.hid (VB.out.chg hc (fun k hk => by have := LB.out k hk; simp; omega))
              replace VC := Lib.hid (VC.out.chg hc (fun k hk => by have := LC.out k hk; simp; omega))
              replace VD := Lib.hid (VD.out.chg hc (fun k hk => by have := LD.out k hk; simp; omega))
              replace HR2 := Lib.hid (HR2.out.chg hc (by simp; omega) (fun k hk => by have := HB3.out k hk; simp; omega))
              replace C := Lib.hid (C.out.fresh hc (by simp; omega))
              replace HR := Lib.hid hr
              have zh := hc.size
              clear hr hc
              rw [show (2 : Int) ^ (8 * 4) = 4294967296 from rfl]
              go_wp2_with fail
              have hu := u32R_any _ _ _ wh HR.out
              rw [rgot4, leNum_leBytes, show (2 : Int) ^ (8 * 4) = 4294967296 from rfl, Int.emod_eq_of_lt (by omega) (by omega)] at hu
              refine hu.mono ?_
              clear hu
              rintro e wi ⟨rfl, hr, hc⟩
              replace VA := Lib.hid (VA.out.chg hc (fun k hk => by have := LA.out k hk; simp; omega))
              replace VB := Lib.hid (VB.out.chg hc (fun k hk => by have := LB.out k hk; simp; omega))
              replace VC := Lib.hid (VC.out.chg hc (fun k hk => by have := LC.out k hk; simp; omega))
              replace VD := Lib.hid (VD.out.chg hc (fun k hk => by have := LD.out k hk; simp; omega))
              replace HR2 := Lib.hid (HR2.out.chg hc (by simp; omega) (fun k hk => by have := HB3.out k hk; simp; omega))
              replace C := Lib.hid (C.out.fresh hc (by simp; omega))
              clear hr hc HR HB3 LA LB LC LD HRS
              go_wp2_with fail
              refine (same_true _ _ _ _ VA.out VB.out (by rw [leBytes_length]; decide)).mono ?_
              rintro e wj ⟨rfl, q1, rfl⟩
              have c0 : Chg [] wi (wi.drewN q1) := (Chg.refl [] _).drewN q1
              replace VA := Lib.hid (VA.out.chg c0 (by simp))
              replace VC := Lib.hid (VC.out.chg c0 (by simp))
              replace VD := Lib.hid (VD.out.chg c0 (by simp))
              replace HR2 := Lib.hid (HR2.out.chg c0 (by simp) (by simp))
              replace C := Lib.hid (C.out.trans c0)
              clear c0 VB
              generalize wi.drewN q1 = wj at *
              go_wp2_with fail
              refine (same_true _ _ _ _ VA.out VC.out (by rw [leBytes_length]; decide)).mono ?_
              rintro e wk ⟨rfl, q1, rfl⟩
              have c0 : Chg [] wj (wj.drewN q1) := (Chg.refl [] _).drewN q1
              replace VA := Lib.hid (VA.out.chg c0 (by simp))
              replace VD := Lib.hid (VD.out.chg c0 (by simp))
              replace HR2 := Lib.hid (HR2.out.chg c0 (by simp) (by simp))
              replace C := Lib.hid (C.out.trans c0)
              clear c0 VC
              generalize wj.drewN q1 = wk at *
              have hor : bits .or .u64 (v % 4294967296) (v / 4294967296 * 4294967296) = v := by
                have := or_half (v % 4294967296) (v / 4294967296) (by omega) (by omega) (by omega) (by omega)
                rw [IntWalk.u64_in _ ⟨by omega, by omega⟩] at this
                omega
              go_wp2_with fail
              refine (same_true _ _ _ _ VA.out VD.out (by rw [leBytes_length]; decide)).mono ?_
              rintro e wl ⟨rfl, q1, rfl⟩
              have c0 : Chg [] wk (wk.drewN q1) := (Chg.refl [] _).drewN q1
              replace HR2 := Lib.hid (HR2.out.chg c0 (by simp) (by simp))
              replace C := Lib.hid (C.out.trans c0)
              clear c0 VA VD
              generalize wk.drewN q1 = wl at *
              go_wp2_with fail
              have hu := u64R_any _ _ _ wl HR2.out
              rw [rgot8, leNum_leBytes, show (2 : Int) ^ (8 * 8) = 18446744073709551616 from rfl, Int.emod_eq_of_lt (by omega) (by omega)] at hu
              refine hu.mono ?_
              clear hu
              rintro e wm ⟨rfl, hr, hc⟩
              replace C := Lib.hid (C.out.fresh hc (by simp; omega))
              clear hr hc HR2
              go_wp2_with fail
              go_ret
              exact ⟨rfl, C.out⟩
end Go.Proofs.Ytbinoailpceonaa
