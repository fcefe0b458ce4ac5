/-
  DiskKeeps walked. By an AI agent.
-/
import Derived.Test.YtjkjkennplfgaaaDkApart
import Derived.Test.YtjkjkennplfgaaaGTab
import Derived.Test.YtjkjkennplfgaaaGOwnBytes
namespace Go.Proofs.Ytjkjkennplfgaaa
open Go.RowKit

/-- What would last behind a crash. -/
def Dk.would (d : Dk) (keep : List Bool) : List (List Nat) := (Dk.kept keep 0 d.cache).foldl Dk.lay d.last

theorem Well.would_write {d : Dk} {n i : Nat} (h : Well d n i) (keep : List Bool) {m : Nat} (hm : m < n) {b : List Nat} (hb : b.length = 128) {k : Nat} (hk : k < n) :
    ((d.write m b).would keep).getD k [] = if keep.getD i false = true ∧ m = k then b else (d.would keep).getD k [] := by
  rw [(Dk.write_ok h.bad (by rw [h.len]; exact hm) hb).2]
  unfold Dk.would
  show ((Dk.kept keep 0 (d.cache ++ [(m, b)])).foldl Dk.lay d.last).getD k [] = _
  rw [Dk.kept_snoc, List.foldl_append, Nat.zero_add, h.many]
  have hl : k < ((Dk.kept keep 0 d.cache).foldl Dk.lay d.last).length := by rw [Dk.lays_length, h.len]; exact hk
  by_cases hq : keep.getD i false = true
  · rw [if_pos hq, Dk.lays_getD _ _ _ hl]
    by_cases e : m = k
    · rw [if_pos ⟨hq, e⟩]
      show (if m = k then b else _) = _
      rw [if_pos e]
    · rw [if_neg (fun q => e q.2)]
      show (if m = k then b else _) = _
      rw [if_neg e]
  · rw [if_neg hq, if_neg (fun q => hq q.1)]
    rfl

theorem Well.new_now {n k : Nat} (hk : k < n) : (Dk.new n).now k = fullOf 0 := by
  show (List.replicate n (List.replicate 128 0)).getD k [] = _
  simp [List.getD, hk, fullOf]

theorem Well.now_nil {d : Dk} {n : Nat} (h : Well d n 0) (k : Nat) : d.now k = d.last.getD k [] := by
  rw [Dk.now_eq, List.eq_nil_of_length_eq_zero h.many]
  rfl

theorem Well.now_len {d : Dk} {n : Nat} (h : Well d n 0) {k : Nat} (hk : k < n) : (d.last.getD k []).length = 128 := by
  rw [List.getD_eq_getElem?_getD, List.getElem?_eq_getElem (by rw [h.len]; exact hk)]
  exact h.sec _ (List.getElem_mem _)

theorem zero_cells : (List.replicate 128 (Value.int .u8 0)) = (ints (fullOf 0)).map (Value.int .u8) := by rw [fullOf_cells]; rfl

set_option maxHeartbeats 16000000 in
set_option maxRecDepth 100000 in
theorem diskKeeps_walk (s : Int) (v u : Value) (k : Value) (es bs : List ActD) (keep : List Bool) (w : World) (hs : 0 ≤ s ∧ s ≤ 255) (hv : Acts w v es) (hu : Acts w u bs) (hk : RdV w k (keep.map Value.bool)) (hkb : keep.length ≤ 140737488355328) :
    Calls Try.prog 4 #[.int .u8 s, v, u, k] w fun e w' => e = .returned (.bool true) ∧ Chg [] w w' := by
  obtain ⟨r, hr, hr9⟩ := tmod_nat hs.1 20 (by decide)
  rw [show ((20 : Nat) : Int) = 20 from rfl] at hr
  have hr0 : (0 : Int) ≤ r := Int.natCast_nonneg _
  have hr1 : (r : Int) < 20 := by omega
  obtain ⟨N, hN, hN0, hN1⟩ : ∃ N : Nat, (r : Int) + 1 = (N : Int) ∧ 1 ≤ N ∧ N ≤ 20 := ⟨r + 1, by omega, by omega, by omega⟩
  have HV := Lib.hid hv
  have HU := Lib.hid hu
  have HK := Lib.hid hk
  have hlen := hv.len
  have hlen2 := hu.len
  obtain ⟨vo, vc, rfl⟩ := hv.slice
  obtain ⟨uo, uc, rfl⟩ := hu.slice
  obtain ⟨ko, kc, rfl⟩ := hk.slice
  rw [List.length_map] at HK ⊢
  obtain ⟨i0, hi, hz0, hz1, hz2⟩ := info_parts info_u8
  obtain ⟨j0, ki, kz0, kz1, kz2⟩ := info_parts info_bytes
  clear hv hu hk
  have hN2 : (1 : Int) ≤ N := by omega
  have hN3 : (N : Int) ≤ 8192 := by omega
  have hN4 : (N : Int) ≠ 0 := by omega
  go_enter Try.func4, Try.ntmps4
  go_wp2_with fail
  have H : Hid (Side w w []) := Side.nil (Chg.refl _ _)
  refine (dnew_any _ w (by omega)).mono ?_
  rintro e w1 (⟨h, _⟩ | ⟨_, g, F, rfl, D, N9, C⟩)
  · exact absurd ⟨by omega, by omega⟩ h
  rw [Int.toNat_natCast] at D
  replace H : Hid (Side w w1 [DiskT g (Dk.new N) F]) := H.out.add C.out D.out N9.out
  clear D N9 C
  have WL := Lib.hid (Well.new N)
  have NL : Hid (∀ k, k < N → (Dk.new N).now k = fullOf 0) := fun k hk => Well.new_now hk
  generalize Dk.new N = d0 at *
  go_wp2_with fail
  refine (dknown_any w1).mono ?_
  rintro e w2 ⟨rfl, C⟩
  replace H : Hid (Side w w2 [DiskT g d0 F]) := H.out.quiet C.out
  clear C
  by_cases hbig : 200 < es.length ∨ 200 < bs.length
  · by_cases hbig1 : 200 < es.length
    · have hb1 : (200 : Int) < es.length := by omega
      have hsum : (200 : Int) < (es.length : Int) + (bs.length : Int) := by omega
      go_wp2_with fail
      refine (dknown_any w2).mono ?_
      rintro e w6 ⟨rfl, C⟩
      replace H : Hid (Side w w6 [DiskT g d0 F]) := H.out.quiet C.out
      clear C
      go_wp2_with fail
      go_ret
      exact ⟨rfl, H.out.chg⟩
    · have hb1 : ¬ (200 : Int) < es.length := by omega
      have hb2 : (200 : Int) < bs.length := by omega
      have hsum : (200 : Int) < (es.length : Int) + (bs.length : Int) := by omega
      go_wp2_with fail
      refine (dknown_any w2).mono ?_
      rintro e w6 ⟨rfl, C⟩
      replace H : Hid (Side w w6 [DiskT g d0 F]) := H.out.quiet C.out
      clear C
      go_wp2_with fail
      go_ret
      exact ⟨rfl, H.out.chg⟩
  have hb1 : ¬ (200 : Int) < es.length := by omega
  have hb2 : ¬ (200 : Int) < bs.length := by omega
  obtain ⟨wz, hwz⟩ : ∃ x, x = w2 := ⟨_, rfl⟩
  go_wp2_with (at_make; refine wpList_make_full _ rfl _ _ 40 rfl _ 22 j0 (.slice none 0 0) 1 Try.underlying40 ki kz0 kz1 .i64 .i64 _ _ N rfl rfl rfl rfl (by rw [kz2]; omega) (by unfold maxLen; omega) (Nat.le_refl _) ?_; intro wm hown hgrow)
  rw [made_replicate _ _ rfl] at hown
  replace H : Hid (Side w wm [TabT w2.heap.size N (List.replicate N []) [w2.heap.size], DiskT g d0 F]) := H.out.add ((Chg.refl _ _).grown hgrow (by intro k hk; cases hk)) (TabIn.made (ownsRow_base hown (Nat.zero_le _))) (fun k hk => by rw [List.mem_singleton.1 hk]; exact Nat.le_refl _)
  clear hown hgrow hwz
  generalize w2.heap.size = tb at *
  go_loopw [13] (fun i wr => ∃ (j : Nat) (F G : List Nat) (xs : List (List Nat)), j ≤ N ∧ i = .int .i64 j ∧ Hid (∀ k, k < j → xs.getD k [] = fullOf 0) ∧ Hid (Side w wr [TabT tb N xs F, DiskT g d0 G])) (fun i _ => N - (intOf i).toNat)
  case atStart => exact ⟨0, _, _, _, Nat.zero_le _, rfl, (fun k hk => by omega), H⟩
  case round =>
    obtain ⟨j, F1, G1, xs, hj, rfl, Z, HH⟩ := hrel
    clear H
    have H := HH
    clear HH
    have hj0 : (0 : Int) ≤ j := Int.natCast_nonneg _
    by_cases hlt : j < N
    · have hj1 : (j : Int) < N := by omega
      have hxl := (H.out.get 0 rfl : TabIn _ _ _ _ _).len
      replace hxl := Lib.hid hxl
      go_wp2_with (at_make; refine wpList_make_full _ rfl _ _ 22 rfl _ 5 i0 (.int .u8 0) 1 Try.underlying22 hi hz0 hz1 .i64 .i64 _ _ 128 rfl rfl rfl rfl (by rw [hz2]; omega) (by unfold maxLen; omega) (Nat.le_refl _) ?_; intro wm hown hgrow; rw [made_replicate _ _ rfl, zero_cells] at hown; obtain ⟨H2, hf, ⟨u0, hu0⟩, _⟩ := (H.out.own hown ((Chg.refl _ _).grown hgrow (by intro k hk; cases hk))).put hlt; replace H2 := Lib.hid H2; clear hown hgrow)
      refine ⟨⟨j + 1, _, _, _, by omega, by go_num, ?_, H2⟩, by simp [intOf]; omega⟩
      intro k hk
      rw [set_getD hxl.out hlt]
      by_cases e : j = k
      · rw [if_pos e]
      · rw [if_neg e]; exact Z.out k (by omega)
    · obtain rfl : j = N := by omega
      clear hlt
      go_wp2_with fail
      go_loopw [14] (fun i wr => ∃ (q : Nat) (F G : List Nat) (xs : List (List Nat)) (d : Dk), q ≤ es.length ∧ i = .int .i64 q ∧ Hid (Well d j q ∧ ∀ k, k < j → xs.getD k [] = d.now k) ∧ Hid (Side w wr [TabT tb j xs F, DiskT g d G])) (fun i _ => es.length - (intOf i).toNat)
      case atStart => exact ⟨0, _, _, _, _, Nat.zero_le _, rfl, ⟨WL.out, fun k hk => by rw [Z.out k hk, NL.out k hk]⟩, H⟩
      case round =>
        obtain ⟨q, F2, G2, xs2, d, hq, rfl, R, HH⟩ := hrel
        clear H WL NL Z
        have H := HH
        clear HH
        have hq0 : (0 : Int) ≤ q := Int.natCast_nonneg _
        by_cases hlt : q < es.length
        · obtain ⟨a, ha⟩ : ∃ a, es[q]? = some a := ⟨_, List.getElem?_eq_getElem hlt⟩
          obtain ⟨b, ob, rfl, hb, RI0⟩ := HV.out.at ha
          have RI := Lib.hid RI0
          obtain ⟨m, hm, hml⟩ := tmod_nat RI0.r0.1 j (by omega)
          obtain ⟨kd, hkd⟩ := Int.eq_ofNat_of_zero_le RI0.r0.1
          have hq8 : kd < 256 := by have := RI0.r0; omega
          rw [hkd] at hm
          have hq1 : (q : Int) < es.length := by omega
          have hm0 : (0 : Int) ≤ m := Int.natCast_nonneg _
          have hm1 : (m : Int) < j := by omega
          have cc0 : ∀ w', Chg [] w w' → w'.cell? ⟨b, ob + q * 4, none⟩ = some (.int .u8 (kd : Int)) := fun w' c => by rw [← hkd]; exact (RI.out.chg hb c).c0
          replace cc0 := Lib.hid cc0
          clear RI0 ha hkd
          have hxl := Lib.hid (H.out.get 0 rfl : TabIn _ _ _ _ _).len
          have e0 := cc0.out _ H.out.chg
          go_wp2_with fail
          clear e0
          refine (sector_any kd wr hq8).mono ?_
          rintro e w31 ⟨u, rfl, O, C⟩
          rw [fullOf_length] at O
          obtain ⟨uo, uc, rfl⟩ := owns_slice O.out
          obtain ⟨H2, hf, ⟨u0, hu0⟩, SU⟩ := (H.out.own O.out C.out).put hml
          clear H O C
          have H := Lib.hid H2
          replace SU := Lib.hid SU
          clear H2
          go_wp2_with fail
          obtain ⟨d4, hd4⟩ : ∃ e, e = d.write m (fullOf kd) := ⟨_, rfl⟩
          have T0 := dwrite_any g G2 d m _ _ _ (H.out.get 1 rfl) (by omega) SU.out (ints_by (fullOf_bs hq8)) (by rw [ints_length, fullOf_length]; decide) (by rw [R.out.1.many]; omega)
          rw [nats_ints, ← hd4] at T0
          refine (T0).mono ?_
          rintro e w32 ⟨rfl, T⟩
          obtain ⟨G3, H1⟩ := H.out.act 1 rfl T.out
          replace H : Hid (Side w w32 [TabT tb j (xs2.set m (fullOf kd)) (F2 ++ (Value.slice uo 128 uc).ownBlock.toList), DiskT g d4 G3]) := H1
          clear H1 T
          clear T0
          go_wp2_with fail
          refine ⟨⟨q + 1, _, _, _, _, by omega, by go_num, ⟨by rw [hd4]; exact R.out.1.write hml (fullOf_length _), fun k hk => ?_⟩, H⟩, by simp [intOf]; omega⟩
          rw [set_getD hxl.out hml, hd4, R.out.1.now_write hml (fullOf_length _)]
          by_cases e : m = k
          · rw [if_pos e, if_pos e]
          · rw [if_neg e, if_neg e]; exact R.out.2 k hk
        · obtain rfl : q = es.length := by omega
          clear hlt
          go_wp2_with fail
          have T0 := dflush_any g G2 d wr (H.out.get 1 rfl)
          obtain ⟨d1, hd1⟩ : ∃ e, e = d.flush := ⟨_, rfl⟩
          rw [← hd1] at T0
          refine (T0).mono ?_
          rintro e w61 ⟨rfl, T⟩
          obtain ⟨G3, H1⟩ := H.out.act 1 rfl T.out
          replace H : Hid (Side w w61 [TabT tb j xs2 F2, DiskT g d1 G3]) := H1
          clear H1 T
          clear T0
          have W1 : Hid (Well d1 j 0) := by rw [hd1]; exact R.out.1.flush
          have R1 : Hid (∀ k, k < j → xs2.getD k [] = d1.last.getD k []) := fun k hk => by rw [hd1, R.out.1.now_flush hk]; exact R.out.2 k hk
          have CN := Lib.hid (W1.out.crash_none keep)
          clear hd1 R
          go_wp2_with fail
          have T0 := dcrash_any g G3 d1 _ keep w61 (H.out.get 1 rfl) (HK.out.chgNil H.out.chg) (hold_old H.out HK.out (i := 1) rfl)
          rw [CN.out] at T0
          refine (T0).mono ?_
          rintro e w62 ⟨rfl, T⟩
          obtain ⟨G4, H1⟩ := H.out.act 1 rfl T.out
          replace H : Hid (Side w w62 [TabT tb j xs2 F2, DiskT g d1 G4]) := H1
          clear H1 T
          clear T0 CN
          go_wp2_with fail
          go_loopw [16] (fun i wr => ∃ q : Nat, q ≤ j ∧ i = .int .i64 q ∧ Hid (Side w wr [TabT tb j xs2 F2, DiskT g d1 G4])) (fun i _ => j - (intOf i).toNat)
          case atStart => exact ⟨0, Nat.zero_le _, rfl, H⟩
          case round =>
            obtain ⟨q, hq, rfl, HH⟩ := hrel
            clear H
            have H := HH
            clear HH
            have hq0 : (0 : Int) ≤ q := Int.natCast_nonneg _
            by_cases hlt : q < j
            · have hq1 : (q : Int) < j := by omega
              go_wp2_with fail
              obtain ⟨q1, q2⟩ := W1.out.read hlt
              rw [W1.out.now_nil] at q1
              have T0 := dread_any g G4 d1 q wr (H.out.get 1 rfl) (by omega)
              rw [q1, q2] at T0
              refine (T0).mono ?_
              rintro e w63 ⟨tx, x, rfl, O, C⟩
              replace H : Hid (Side w w63 [ownT tx x ((ints (d1.last.getD q [])).map (Value.int .u8)), TabT tb j xs2 F2, DiskT g d1 G4]) := H.out.own O.out C.out
              clear O C
              clear T0 q1 q2
              obtain ⟨ro, rc, e0, SR⟩ := (H.out.get 1 rfl : TabIn _ _ _ _ _).get hlt
              rw [R1.out q hlt] at e0 SR
              have hrl : (d1.last.getD q []).length ≤ 140737488355328 := by rw [W1.out.now_len hlt]; decide
              have X0 := Lib.hid (ownT_sl (H.out.get 0 rfl))
              replace SR := Lib.hid SR
              generalize d1.last.getD q [] = rw_ at *
              go_wp2_with fail
              refine (same_true _ _ (ints rw_) _ X0.out SR.out (by rw [ints_length]; exact hrl)).mono ?_
              rintro e w64 ⟨rfl, qq, hw⟩
              have H3 := Lib.hid (H.out.tail.quiet (w' := w64) (by rw [hw]; exact (Chg.refl [] _).drewN _))
              clear H hw
              go_wp2_with fail
              exact ⟨⟨q + 1, by omega, by go_num, H3⟩, by simp [intOf]; omega⟩
            · obtain rfl : q = j := by omega
              clear hlt
              go_wp2_with fail
              have WO0 : Hid (Well d1 q 0 ∧ ∀ k, k < q → xs2.getD k [] = (d1.would keep).getD k []) := ⟨W1.out, fun k hk => by rw [R1.out k hk]; unfold Dk.would; rw [List.eq_nil_of_length_eq_zero W1.out.many]; rfl⟩
              clear W1 R1
              go_loopw [19] (fun i wr => ∃ (p : Nat) (F G : List Nat) (xs : List (List Nat)) (d : Dk), p ≤ bs.length ∧ i = .int .i64 p ∧ Hid (Well d q p ∧ ∀ k, k < q → xs.getD k [] = (d.would keep).getD k []) ∧ Hid (Side w wr [TabT tb q xs F, DiskT g d G])) (fun i _ => bs.length - (intOf i).toNat)
              case atStart => exact ⟨0, _, _, _, _, Nat.zero_le _, rfl, WO0, H⟩
              case round =>
                obtain ⟨p, F3, G3, xs3, d3, hp, rfl, R, HH⟩ := hrel
                clear H WO0
                have H := HH
                clear HH
                have hp0 : (0 : Int) ≤ p := Int.natCast_nonneg _
                by_cases hlt : p < bs.length
                · obtain ⟨a, ha⟩ : ∃ a, bs[p]? = some a := ⟨_, List.getElem?_eq_getElem hlt⟩
                  obtain ⟨b, ob, rfl, hb, RI0⟩ := HU.out.at ha
                  have RI := Lib.hid RI0
                  obtain ⟨m, hm, hml⟩ := tmod_nat RI0.r0.1 q (by omega)
                  obtain ⟨kd, hkd⟩ := Int.eq_ofNat_of_zero_le RI0.r0.1
                  have hq8 : kd < 256 := by have := RI0.r0; omega
                  rw [hkd] at hm
                  obtain ⟨c8, hc8, hc9⟩ : ∃ c : Nat, ((kd : Int) + 77) % 256 = (c : Int) ∧ c < 256 := ⟨(kd + 77) % 256, by omega, by omega⟩
                  have hp1 : (p : Int) < bs.length := by omega
                  have hm0 : (0 : Int) ≤ m := Int.natCast_nonneg _
                  have hm1 : (m : Int) < q := by omega
                  have cc0 : ∀ w', Chg [] w w' → w'.cell? ⟨b, ob + p * 4, none⟩ = some (.int .u8 (kd : Int)) := fun w' c => by rw [← hkd]; exact (RI.out.chg hb c).c0
                  replace cc0 := Lib.hid cc0
                  have hxl := Lib.hid (H.out.get 0 rfl : TabIn _ _ _ _ _).len
                  clear RI RI0 ha hkd
                  have hcase : (∃ h : p < keep.length, keep[p] = true) ∨ (∃ h : p < keep.length, keep[p] = false) ∨ ¬ p < keep.length := by
                    by_cases h : p < keep.length
                    · cases hkp : keep[p] with
                      | true => exact .inl ⟨h, hkp⟩
                      | false => exact .inr (.inl ⟨h, hkp⟩)
                    · exact .inr (.inr h)
                  rcases hcase with ⟨hkl, hkp⟩ | ⟨hkl, hkp⟩ | hkl
                  · have kk : (keep.map Value.bool)[p]? = some (.bool true) := by rw [List.getElem?_map, List.getElem?_eq_getElem hkl, hkp]; rfl
                    obtain ⟨kb, kof, rfl, ck⟩ := HK.out.at kk
                    have hkb1 : (p : Int) < keep.length := by omega
                    have cck : ∀ w', Chg [] w w' → w'.cell? ⟨kb, kof + p, none⟩ = some (.bool true) := fun w' c => (c.cell (p := ⟨kb, kof + p, none⟩) (World.block_lt_of_cell? _ _ ck) (by simp)).trans ck
                    replace cck := Lib.hid cck
                    have hg : keep.getD p false = true := by rw [List.getD_eq_getElem?_getD, List.getElem?_eq_getElem hkl, hkp]; rfl
                    clear kk ck hkp
                    replace hg := Lib.hid hg
                    have e0 := cc0.out _ H.out.chg
                    go_wp2_with fail
                    clear e0
                    refine (sector_any c8 wr hc9).mono ?_
                    rintro e w101 ⟨su, rfl, O, C⟩
                    rw [fullOf_length] at O
                    obtain ⟨so, sc, rfl⟩ := owns_slice O.out
                    replace H : Hid (Side w w101 [ownT 5 (.slice so 128 sc) ((ints (fullOf c8)).map (Value.int .u8)), TabT tb q xs3 F3, DiskT g d3 G3]) := H.out.own O.out C.out
                    clear O C
                    go_wp2_with fail
                    obtain ⟨d4, hd4⟩ : ∃ e, e = d3.write m (fullOf c8) := ⟨_, rfl⟩
                    have T0 := dwrite_any g G3 d3 m _ _ w101 (H.out.get 2 rfl) (by omega) (ownT_sl (H.out.get 0 rfl)) (ints_by (fullOf_bs hc9)) (by rw [ints_length, fullOf_length]; decide) (by rw [R.out.1.many]; omega)
                    rw [nats_ints, ← hd4] at T0
                    refine (T0).mono ?_
                    rintro e w102 ⟨rfl, T⟩
                    obtain ⟨G4, H1⟩ := H.out.act 2 rfl T.out
                    replace H : Hid (Side w w102 [ownT 5 (.slice so 128 sc) ((ints (fullOf c8)).map (Value.int .u8)), TabT tb q xs3 F3, DiskT g d4 G4]) := H1
                    clear H1 T
                    clear T0
                    have W4 : Hid (Well d4 q (p + 1)) := by rw [hd4]; exact R.out.1.write hml (fullOf_length _)
                    have R4 : Hid (∀ k, k < q → (d4.would keep).getD k [] = if keep.getD p false = true ∧ m = k then fullOf c8 else (d3.would keep).getD k []) := fun k hk => by rw [hd4]; exact R.out.1.would_write keep hml (fullOf_length _) hk
                    clear hd4
                    have ck1 := cck.out _ H.out.chg
                    obtain ⟨H2, hf, ⟨u0, hu0⟩, _⟩ := H.out.put hml
                    replace H2 := Lib.hid H2
                    clear H
                    go_wp2_with fail
                    refine ⟨⟨p + 1, _, _, _, _, by omega, by go_num, ⟨W4.out, fun k hk => ?_⟩, H2⟩, by simp [intOf]; omega⟩
                    rw [set_getD hxl.out hml, R4.out k hk]
                    by_cases e : m = k
                    · rw [if_pos e, if_pos ⟨hg.out, e⟩]
                    · rw [if_neg e, if_neg (fun x => e x.2)]; exact R.out.2 k hk
                  · have kk : (keep.map Value.bool)[p]? = some (.bool false) := by rw [List.getElem?_map, List.getElem?_eq_getElem hkl, hkp]; rfl
                    obtain ⟨kb, kof, rfl, ck⟩ := HK.out.at kk
                    have hkb1 : (p : Int) < keep.length := by omega
                    have cck : ∀ w', Chg [] w w' → w'.cell? ⟨kb, kof + p, none⟩ = some (.bool false) := fun w' c => (c.cell (p := ⟨kb, kof + p, none⟩) (World.block_lt_of_cell? _ _ ck) (by simp)).trans ck
                    replace cck := Lib.hid cck
                    have hg : keep.getD p false = false := by rw [List.getD_eq_getElem?_getD, List.getElem?_eq_getElem hkl, hkp]; rfl
                    clear kk ck hkp
                    replace hg := Lib.hid hg
                    have e0 := cc0.out _ H.out.chg
                    go_wp2_with fail
                    clear e0
                    refine (sector_any c8 wr hc9).mono ?_
                    rintro e w101 ⟨su, rfl, O, C⟩
                    rw [fullOf_length] at O
                    obtain ⟨so, sc, rfl⟩ := owns_slice O.out
                    replace H : Hid (Side w w101 [ownT 5 (.slice so 128 sc) ((ints (fullOf c8)).map (Value.int .u8)), TabT tb q xs3 F3, DiskT g d3 G3]) := H.out.own O.out C.out
                    clear O C
                    go_wp2_with fail
                    obtain ⟨d4, hd4⟩ : ∃ e, e = d3.write m (fullOf c8) := ⟨_, rfl⟩
                    have T0 := dwrite_any g G3 d3 m _ _ w101 (H.out.get 2 rfl) (by omega) (ownT_sl (H.out.get 0 rfl)) (ints_by (fullOf_bs hc9)) (by rw [ints_length, fullOf_length]; decide) (by rw [R.out.1.many]; omega)
                    rw [nats_ints, ← hd4] at T0
                    refine (T0).mono ?_
                    rintro e w102 ⟨rfl, T⟩
                    obtain ⟨G4, H1⟩ := H.out.act 2 rfl T.out
                    replace H : Hid (Side w w102 [ownT 5 (.slice so 128 sc) ((ints (fullOf c8)).map (Value.int .u8)), TabT tb q xs3 F3, DiskT g d4 G4]) := H1
                    clear H1 T
                    clear T0
                    have W4 : Hid (Well d4 q (p + 1)) := by rw [hd4]; exact R.out.1.write hml (fullOf_length _)
                    have R4 : Hid (∀ k, k < q → (d4.would keep).getD k [] = if keep.getD p false = true ∧ m = k then fullOf c8 else (d3.would keep).getD k []) := fun k hk => by rw [hd4]; exact R.out.1.would_write keep hml (fullOf_length _) hk
                    clear hd4
                    have ck1 := cck.out _ H.out.chg
                    replace H : Hid (Side w w102 [TabT tb q xs3 F3, DiskT g d4 G4]) := H.out.tail
                    go_wp2_with fail
                    refine ⟨⟨p + 1, _, _, _, _, by omega, by go_num, ⟨W4.out, fun k hk => ?_⟩, H⟩, by simp [intOf]; omega⟩
                    rw [R4.out k hk, if_neg (fun x => by rw [hg.out] at x; exact absurd x.1 (by decide))]; exact R.out.2 k hk
                  · have hkb1 : ¬ (p : Int) < keep.length := by omega
                    have hg : keep.getD p false = false := by rw [List.getD_eq_getElem?_getD, List.getElem?_eq_none (by omega)]; rfl
                    replace hg := Lib.hid hg
                    have e0 := cc0.out _ H.out.chg
                    go_wp2_with fail
                    clear e0
                    refine (sector_any c8 wr hc9).mono ?_
                    rintro e w101 ⟨su, rfl, O, C⟩
                    rw [fullOf_length] at O
                    obtain ⟨so, sc, rfl⟩ := owns_slice O.out
                    replace H : Hid (Side w w101 [ownT 5 (.slice so 128 sc) ((ints (fullOf c8)).map (Value.int .u8)), TabT tb q xs3 F3, DiskT g d3 G3]) := H.out.own O.out C.out
                    clear O C
                    go_wp2_with fail
                    obtain ⟨d4, hd4⟩ : ∃ e, e = d3.write m (fullOf c8) := ⟨_, rfl⟩
                    have T0 := dwrite_any g G3 d3 m _ _ w101 (H.out.get 2 rfl) (by omega) (ownT_sl (H.out.get 0 rfl)) (ints_by (fullOf_bs hc9)) (by rw [ints_length, fullOf_length]; decide) (by rw [R.out.1.many]; omega)
                    rw [nats_ints, ← hd4] at T0
                    refine (T0).mono ?_
                    rintro e w102 ⟨rfl, T⟩
                    obtain ⟨G4, H1⟩ := H.out.act 2 rfl T.out
                    replace H : Hid (Side w w102 [ownT 5 (.slice so 128 sc) ((ints (fullOf c8)).map (Value.int .u8)), TabT tb q xs3 F3, DiskT g d4 G4]) := H1
                    clear H1 T
                    clear T0
                    have W4 : Hid (Well d4 q (p + 1)) := by rw [hd4]; exact R.out.1.write hml (fullOf_length _)
                    have R4 : Hid (∀ k, k < q → (d4.would keep).getD k [] = if keep.getD p false = true ∧ m = k then fullOf c8 else (d3.would keep).getD k []) := fun k hk => by rw [hd4]; exact R.out.1.would_write keep hml (fullOf_length _) hk
                    clear hd4
                    replace H : Hid (Side w w102 [TabT tb q xs3 F3, DiskT g d4 G4]) := H.out.tail
                    go_wp2_with fail
                    refine ⟨⟨p + 1, _, _, _, _, by omega, by go_num, ⟨W4.out, fun k hk => ?_⟩, H⟩, by simp [intOf]; omega⟩
                    rw [R4.out k hk, if_neg (fun x => by rw [hg.out] at x; exact absurd x.1 (by decide))]; exact R.out.2 k hk
                · obtain rfl : p = bs.length := by omega
                  clear hlt
                  go_wp2_with fail
                  have T0 := dcrash_any g G3 d3 _ keep wr (H.out.get 1 rfl) (HK.out.chgNil H.out.chg) (hold_old H.out HK.out (i := 1) rfl)
                  obtain ⟨d2, hd2⟩ : ∃ e, e = d3.crash keep := ⟨_, rfl⟩
                  rw [← hd2] at T0
                  refine (T0).mono ?_
                  rintro e w201 ⟨rfl, T⟩
                  obtain ⟨G5, H1⟩ := H.out.act 1 rfl T.out
                  replace H : Hid (Side w w201 [TabT tb q xs3 F3, DiskT g d2 G5]) := H1
                  clear H1 T
                  clear T0
                  have W2 : Hid (Well d2 q 0) := by rw [hd2]; exact R.out.1.crash keep
                  have R2 : Hid (∀ k, k < q → xs3.getD k [] = d2.last.getD k []) := fun k hk => by rw [R.out.2 k hk, hd2, Dk.crash_ok R.out.1.bad]; rfl
                  clear hd2 R
                  go_wp2_with fail
                  have T0 := dimage_any g G5 d2 w201 (H.out.get 1 rfl)
                  have IL : d2.image.length = 128 * q := W2.out.image_len
                  have IC : Hid (∀ k, k < q → (d2.image.drop (128 * k)).take 128 = d2.last.getD k []) := fun k hk => by rw [Dk.image_ok W2.out.bad]; exact Dk.flat_cut W2.out.sec (by rw [W2.out.len]; exact hk)
                  generalize d2.image = im at *
                  refine T0.mono ?_
                  rintro e w202 ⟨x, rfl, O, C⟩
                  obtain ⟨io, ic, rfl⟩ := owns_slice O.out
                  have hcap := owned_cap O.out
                  obtain ⟨L, hL⟩ : ∃ L, L = im.length := ⟨_, rfl⟩
                  rw [← hL] at O IL hcap ⊢
                  replace H : Hid (Side w w202 [ownT 5 (.slice io L ic) ((ints im).map (Value.int .u8)), TabT tb q xs3 F3, DiskT g d2 G5]) := H.out.own O.out C.out
                  clear O C T0
                  have hL0 : (L : Int) = (q : Int) * 128 := by omega
                  have hLq : ((L : Int) != (q : Int) * 128) = false := by simp; omega
                  replace IL := Lib.hid IL
                  replace hL := Lib.hid hL
                  replace hL0 := Lib.hid hL0
                  go_wp2_with fail
                  go_loopw [23] (fun i wr => ∃ p : Nat, p ≤ q ∧ i = .int .i64 p ∧ Hid (Side w wr [ownT 5 (.slice io L ic) ((ints im).map (Value.int .u8)), TabT tb q xs3 F3, DiskT g d2 G5])) (fun i _ => q - (intOf i).toNat)
                  case atStart => exact ⟨0, Nat.zero_le _, rfl, H⟩
                  case round =>
                    obtain ⟨p, hp, rfl, HH⟩ := hrel
                    clear H
                    have H := HH
                    clear HH
                    have hp0 : (0 : Int) ≤ p := Int.natCast_nonneg _
                    by_cases hlt : p < q
                    · have hp1 : (p : Int) < q := by omega
                      go_wp2_with fail
                      obtain ⟨q1, q2⟩ := W2.out.read hlt
                      rw [W2.out.now_nil] at q1
                      have T0 := dread_any g G5 d2 p wr (H.out.get 2 rfl) (by omega)
                      rw [q1, q2] at T0
                      refine (T0).mono ?_
                      rintro e w203 ⟨tx, x, rfl, O, C⟩
                      replace H : Hid (Side w w203 [ownT tx x ((ints (d2.last.getD p [])).map (Value.int .u8)), ownT 5 (.slice io L ic) ((ints im).map (Value.int .u8)), TabT tb q xs3 F3, DiskT g d2 G5]) := H.out.own O.out C.out
                      clear O C
                      clear T0 q1 q2
                      obtain ⟨ro, rc, e0, SR⟩ := (H.out.get 2 rfl : TabIn _ _ _ _ _).get hlt
                      rw [R2.out p hlt] at e0 SR
                      have hrl : (d2.last.getD p []).length = 128 := W2.out.now_len hlt
                      have X0 := Lib.hid (ownT_sl (H.out.get 0 rfl))
                      have I0 : Sl _ (.slice io L ic) (ints im) := ownT_sl (H.out.get 1 rfl)
                      rw [show L = (ints im).length by rw [ints_length]; exact hL.out] at I0
                      obtain ⟨P, hP⟩ : ∃ P : Nat, (p : Int) * 128 = (P : Int) := ⟨p * 128, by omega⟩
                      obtain ⟨P2, hP2⟩ : ∃ P2 : Nat, ((p : Int) + 1) * 128 = (P2 : Int) := ⟨p * 128 + 128, by omega⟩
                      have hq2 : P2 - P = 128 := by omega
                      have hq3 : P = 128 * p := by omega
                      have hq4 : P2 ≤ L := by have := IL.out; omega
                      have hq5 : P2 ≤ ic := by omega
                      have hq6 : (P : Int) ≤ P2 := by omega
                      have hq7 : (P2 : Int) ≤ ic := by omega
                      have hq8 : ¬ ic = P := by omega
                      have CU := I0.cut P (P2 - P) (by rw [ints_length, ← hL.out]; omega) (by rw [ints_length, ← hL.out]; exact hcap)
                      rw [show ((ints im).drop P).take (P2 - P) = ints (d2.last.getD p []) by rw [hq2, hq3, ← IC.out p hlt]; unfold ints; rw [List.map_take, List.map_drop], if_neg hq8] at CU
                      replace hq2 := Lib.hid hq2
                      replace hq3 := Lib.hid hq3
                      replace hP := Lib.hid hP
                      replace hP2 := Lib.hid hP2
                      replace SR := Lib.hid SR
                      replace CU := Lib.hid CU
                      replace hrl := Lib.hid hrl
                      clear I0
                      generalize d2.last.getD p [] = rw_ at *
                      go_wp2_with fail
                      refine (same_true _ _ (ints rw_) _ X0.out SR.out (by rw [ints_length, hrl.out]; decide)).mono ?_
                      rintro e w204 ⟨rfl, qq, hw⟩
                      have cW : Hid (Chg [] w203 w204) := by rw [hw]; exact (Chg.refl [] _).drewN _
                      replace H : Hid (Side w w204 [ownT tx x ((ints rw_).map (Value.int .u8)), ownT 5 (.slice io L ic) ((ints im).map (Value.int .u8)), TabT tb q xs3 F3, DiskT g d2 G5]) := H.out.quiet cW.out
                      clear hw
                      replace hP := hP.out
                      replace hP2 := hP2.out
                      replace CU := Lib.hid (CU.out.chgNil cW.out)
                      replace X0 := Lib.hid (ownT_sl (H.out.get 0 rfl))
                      go_wp2_with fail
                      refine (same_true _ _ (ints rw_) _ CU.out X0.out (by rw [ints_length, hrl.out]; decide)).mono ?_
                      rintro e w205 ⟨rfl, qd, hw⟩
                      replace H : Hid (Side w w205 [ownT tx x ((ints rw_).map (Value.int .u8)), ownT 5 (.slice io L ic) ((ints im).map (Value.int .u8)), TabT tb q xs3 F3, DiskT g d2 G5]) := H.out.quiet (by rw [hw]; exact (Chg.refl [] _).drewN _)
                      clear hw
                      replace H : Hid (Side w w205 [ownT 5 (.slice io L ic) ((ints im).map (Value.int .u8)), TabT tb q xs3 F3, DiskT g d2 G5]) := H.out.tail
                      go_wp2_with fail
                      exact ⟨⟨p + 1, by omega, by go_num, H⟩, by simp [intOf]; omega⟩
                    · obtain rfl : p = q := by omega
                      clear hlt
                      go_wp2_with fail
                      go_ret
                      exact ⟨rfl, H.out.chg⟩

end Go.Proofs.Ytjkjkennplfgaaa
