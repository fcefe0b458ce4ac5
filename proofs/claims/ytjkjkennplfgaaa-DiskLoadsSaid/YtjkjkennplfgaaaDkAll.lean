/-
  DiskAll walked. By an AI agent.
-/
import Derived.Test.YtjkjkennplfgaaaDkFailed
import Derived.Test.YtjkjkennplfgaaaDkActs
namespace Go.Proofs.Ytjkjkennplfgaaa
open Go.RowKit

theorem info_bool : (Try.prog.info? 4).map (fun i => (i.zero, i.size, i.bytes)) = some (some (.bool false), 1, 1) := by kernel_rfl

theorem wrap_u8 (k : Nat) : IntKind.u8.wrap (k : Int) = ((k % 256 : Nat) : Int) := by
  simp [IntKind.wrap, IntKind.bits, IntKind.signed]

/-- Bools, the first k of n are true. -/
def trues (n k : Nat) : List Bool := (List.range n).map fun j => decide (j < k)

theorem trues_length (n k : Nat) : (trues n k).length = n := by simp [trues]

theorem trues_set {n k : Nat} : ((trues n k).map Value.bool).set k (.bool true) = (trues n (k + 1)).map Value.bool := by
  refine List.ext_getElem (by simp [trues]) fun j h1 h2 => ?_
  have hj : j < n := by simpa [trues] using h2
  rw [List.getElem_set]
  by_cases e : k = j
  · subst e
    rw [if_pos rfl]
    simp only [trues, List.getElem_map, List.getElem_range]
    congr 1
    exact (decide_eq_true (by omega)).symm
  · rw [if_neg e]
    simp only [trues, List.getElem_map, List.getElem_range]
    congr 1
    by_cases h : j < k
    · rw [decide_eq_true h, decide_eq_true (by omega)]
    · rw [decide_eq_false h, decide_eq_false (by omega)]

theorem trues_none (n : Nat) : (trues n 0).map Value.bool = List.replicate n (.bool false) := by
  refine List.eq_replicate_iff.2 ⟨by simp [trues], fun b hb => ?_⟩
  obtain ⟨x, hx, rfl⟩ := List.mem_map.1 hb
  obtain ⟨j, _, rfl⟩ := List.mem_map.1 hx
  simp

theorem trues_all {n j : Nat} (h : j < n) : (trues n n).getD j false = true := by simp [trues, List.getD, h]

/-- A disk that is well, with n sectors, and i writes that wait. -/
structure Well (d : Dk) (n i : Nat) : Prop where
  bad : d.bad = false
  len : d.last.length = n
  many : d.cache.length = i
  sec : ∀ s ∈ d.last, s.length = 128
  wr : ∀ x ∈ d.cache, x.2.length = 128

theorem Well.new (n : Nat) : Well (Dk.new n) n 0 := ⟨rfl, Dk.new_last n, rfl, (fun s hs => by rw [(List.mem_replicate.1 hs).2]; simp), (fun x hx => by cases hx)⟩

theorem Well.write {d : Dk} {n i : Nat} (h : Well d n i) {m : Nat} (hm : m < n) {b : List Nat} (hb : b.length = 128) : Well (d.write m b) n (i + 1) := by
  rw [(Dk.write_ok h.bad (by rw [h.len]; exact hm) hb).2]
  refine ⟨h.bad, h.len, by simp [h.many], h.sec, fun x hx => ?_⟩
  rcases List.mem_append.1 hx with hx | hx
  · exact h.wr x hx
  · rw [List.mem_singleton.1 hx]; exact hb

theorem Well.lays {d : Dk} {n i : Nat} (h : Well d n i) : ∀ s ∈ d.cache.foldl Dk.lay d.last, s.length = 128 := fun s hs => by
  rcases Dk.lays_mem _ _ s hs with hs | ⟨x, hx, rfl⟩
  · exact h.sec s hs
  · exact h.wr x hx

theorem Well.flush {d : Dk} {n i : Nat} (h : Well d n i) : Well d.flush n 0 := by
  rw [(Dk.flush_ok h.bad).2]
  exact ⟨h.bad, by show (d.cache.foldl Dk.lay d.last).length = n; rw [Dk.lays_length]; exact h.len, rfl, h.lays, (fun x hx => by cases hx)⟩

theorem Well.crash_all {d : Dk} {n i : Nat} (h : Well d n i) : d.crash (trues i i) = d.flush := by
  rw [Dk.crash_ok h.bad, (Dk.flush_ok h.bad).2, Dk.kept_all _ 0 d.cache (fun j _ h2 => trues_all (by rw [← h.many]; omega))]

theorem Well.crash_none {d : Dk} {n : Nat} (h : Well d n 0) (keep : List Bool) : d.crash keep = d := by
  rw [Dk.crash_ok h.bad, List.eq_nil_of_length_eq_zero h.many]
  have e : d.cache = [] := List.eq_nil_of_length_eq_zero h.many
  cases d
  simp only at e
  subst e
  rfl

theorem Well.image_len {d : Dk} {n i : Nat} (h : Well d n i) : d.image.length = 128 * n := by
  rw [Dk.image_ok h.bad, Dk.flat_len h.sec, h.len]

set_option maxHeartbeats 4000000 in
set_option maxRecDepth 100000 in
theorem diskAll_walk (s : Int) (v k : Value) (es : List ActD) (keep : List Bool) (w : World) (hs : 0 ≤ s ∧ s ≤ 255) (hv : Acts w v es) (hk : RdV w k (keep.map Value.bool)) :
    Calls Try.prog 7 #[.int .u8 s, v, k] w fun e w' => e = .returned (.bool true) ∧ Chg [] w w' := by
  obtain ⟨r, hr, hr9⟩ := tmod_nat hs.1 20 (by decide)
  rw [show ((20 : Nat) : Int) = 20 from rfl] at hr
  have hr0 : (0 : Int) ≤ r := Int.natCast_nonneg _
  have hr1 : (r : Int) < 20 := by omega
  have HV := Lib.hid hv
  have HK := Lib.hid hk
  have hlen := hv.len
  obtain ⟨vo, vc, rfl⟩ := hv.slice
  obtain ⟨ko, kc, rfl⟩ := hk.slice
  rw [List.length_map] at HK ⊢
  clear hv hk
  obtain ⟨i0, hi, hz0, hz1, hz2⟩ := info_parts info_bool
  by_cases hbig : 300 < es.length
  · have hb1 : (300 : Int) < es.length := by omega
    go_enter Try.func7, Try.ntmps7
    go_wp2_with fail
    refine (dknown_any w).mono ?_
    rintro e w1 ⟨rfl, C⟩
    go_wp2_with fail
    go_ret
    exact ⟨rfl, C.out⟩
  have hb1 : ¬ (300 : Int) < es.length := by omega
  go_enter Try.func7, Try.ntmps7
  go_wp2_with fail
  have H : Hid (Side w w []) := Side.nil (Chg.refl _ _)
  refine (dknown_any w).mono ?_
  rintro e w1 ⟨rfl, C⟩
  replace H : Hid (Side w w1 []) := H.out.quiet C.out
  clear C
  have hnn : ((r : Int) + 1).toNat = r + 1 := by omega
  go_wp2_with fail
  refine (dnew_any _ w1 (by omega)).mono ?_
  rintro e w2 (⟨h, _⟩ | ⟨_, g, F, rfl, D, N, C⟩)
  · exact absurd ⟨by omega, by omega⟩ h
  rw [hnn] at D
  replace H : Hid (Side w w2 [DiskT g (Dk.new (r + 1)) F]) := H.out.add C.out D.out N.out
  clear D N C
  go_wp2_with fail
  refine (dnew_any _ w2 (by omega)).mono ?_
  rintro e w3 (⟨h, _⟩ | ⟨_, o, G, rfl, D, N, C⟩)
  · exact absurd ⟨by omega, by omega⟩ h
  rw [hnn] at D
  replace H : Hid (Side w w3 [DiskT o (Dk.new (r + 1)) G, DiskT g (Dk.new (r + 1)) F]) := H.out.add C.out D.out N.out
  clear D N C
  go_wp2_with fail
  have WL := Well.new (r + 1)
  generalize Dk.new (r + 1) = d0 at *
  replace WL := Lib.hid WL
  go_loopw [12] (fun i wr => ∃ (j : Nat) (d : Dk) (F G : List Nat), j ≤ es.length ∧ i = .int .i64 j ∧ Hid (Well d (r + 1) j) ∧ Hid (Side w wr [DiskT o d G, DiskT g d F])) (fun i _ => es.length - (intOf i).toNat)
  case atStart => exact ⟨0, d0, F, G, Nat.zero_le _, rfl, WL, H⟩
  case round =>
    obtain ⟨j, d, F1, G1, hj, rfl, WD, HH⟩ := hrel
    clear H WL
    have hj0 : (0 : Int) ≤ j := Int.natCast_nonneg _
    by_cases hlt : j < es.length
    · obtain ⟨a, ha⟩ : ∃ a, es[j]? = some a := ⟨_, List.getElem?_eq_getElem hlt⟩
      obtain ⟨b, o1, rfl, hb, RI⟩ := (HV.out.chg HH.out.chg).at ha
      have c0 := RI.c0
      obtain ⟨m, hm, hml⟩ := tmod_nat RI.r0.1 (r + 1) (by omega)
      rw [show ((r + 1 : Nat) : Int) = (r : Int) + 1 by omega] at hm
      have hq := RI.r0
      have hj1 : (j : Int) < es.length := by omega
      obtain ⟨q8, hq8, hq9⟩ : ∃ q : Nat, (j : Int) % 256 = (q : Int) ∧ q < 256 := ⟨j % 256, by omega, by omega⟩
      have hne : (r : Int) + 1 ≠ 0 := by omega
      have hm0 : (0 : Int) ≤ m := Int.natCast_nonneg _
      generalize a.kind = kd at *
      clear RI ha
      have H : Hid (Side w wr [DiskT o d G1, DiskT g d F1]) := HH
      clear HH
      go_wp2_with fail
      refine (sector_any q8 wr hq9).mono ?_
      rintro e w31 ⟨u, rfl, O, C⟩
      replace H : Hid (Side w w31 [ownT 5 u ((ints (fullOf q8)).map (Value.int .u8)), DiskT o d G1, DiskT g d F1]) := H.out.own O.out C.out
      clear O C
      go_wp2_with fail
      obtain ⟨d1, hd1⟩ : ∃ e, e = d.write m (fullOf q8) := ⟨_, rfl⟩
      have hcm := WD.out.many
      have T0 := dwrite_any g F1 d m u _ w31 (H.out.get 2 rfl) (by omega) (ownT_sl (H.out.get 0 rfl)) (ints_by (fullOf_bs hq9)) (by rw [ints_length, fullOf_length]; decide) (by omega)
      rw [nats_ints, ← hd1] at T0
      refine (T0).mono ?_
      rintro e w32 ⟨rfl, T⟩
      obtain ⟨F2, H1⟩ := H.out.act 2 rfl T.out
      replace H : Hid (Side w w32 [ownT 5 u ((ints (fullOf q8)).map (Value.int .u8)), DiskT o d G1, DiskT g d1 F2]) := H1
      clear H1 T
      replace H : Hid (Side w w32 [DiskT o d G1, DiskT g d1 F2]) := H.out.tail
      clear T0
      go_wp2_with fail
      refine (sector_any q8 w32 hq9).mono ?_
      rintro e w33 ⟨u, rfl, O, C⟩
      replace H : Hid (Side w w33 [ownT 5 u ((ints (fullOf q8)).map (Value.int .u8)), DiskT o d G1, DiskT g d1 F2]) := H.out.own O.out C.out
      clear O C
      go_wp2_with fail
      have T0 := dwrite_any o G1 d m u _ w33 (H.out.get 1 rfl) (by omega) (ownT_sl (H.out.get 0 rfl)) (ints_by (fullOf_bs hq9)) (by rw [ints_length, fullOf_length]; decide) (by omega)
      rw [nats_ints, ← hd1] at T0
      refine (T0).mono ?_
      rintro e w34 ⟨rfl, T⟩
      obtain ⟨G2, H1⟩ := H.out.act 1 rfl T.out
      replace H : Hid (Side w w34 [ownT 5 u ((ints (fullOf q8)).map (Value.int .u8)), DiskT o d1 G2, DiskT g d1 F2]) := H1
      clear H1 T
      replace H : Hid (Side w w34 [DiskT o d1 G2, DiskT g d1 F2]) := H.out.tail
      clear T0
      go_wp2_with fail
      exact ⟨⟨j + 1, d1, F2, G2, by omega, by go_num, by rw [hd1]; exact WD.out.write hml (fullOf_length _), H⟩, by simp [intOf]; omega⟩
    · obtain rfl : j = es.length := by omega
      clear hlt
      have H : Hid (Side w wr [DiskT o d G1, DiskT g d F1]) := HH
      clear HH
      go_wp2_with fail
      have T0 := dflush_any g F1 d wr (H.out.get 1 rfl)
      obtain ⟨df, hdf⟩ : ∃ e, e = d.flush := ⟨_, rfl⟩
      rw [← hdf] at T0
      have WF := WD.out.flush
      rw [← hdf] at WF
      have CA := WD.out.crash_all
      rw [← hdf] at CA
      refine (T0).mono ?_
      rintro e w61 ⟨rfl, T⟩
      obtain ⟨F2, H1⟩ := H.out.act 1 rfl T.out
      replace H : Hid (Side w w61 [DiskT o d G1, DiskT g df F2]) := H1
      clear H1 T
      clear T0 hdf
      have IL := Lib.hid WF.image_len
      have CN := WF.crash_none keep
      replace CA := Lib.hid CA
      replace CN := Lib.hid CN
      clear WF
      obtain ⟨wz, hwz⟩ : ∃ x, x = w61 := ⟨_, rfl⟩
      go_wp2_with (at_make; refine wpList_make_full _ rfl _ _ 57 rfl _ 4 i0 (.bool false) 1 Try.underlying57 hi hz0 hz1 .i64 .i64 _ _ es.length rfl rfl rfl rfl (by rw [hz2]; omega) (by unfold maxLen; omega) (Nat.le_refl _) ?_; intro wm hown hgrow)
      rw [made_replicate _ _ rfl, ← trues_none] at hown
      replace H : Hid (Side w wm [ownT 4 (.slice (some ⟨w61.heap.size, 0, none⟩) es.length es.length) ((trues es.length 0).map Value.bool), DiskT o d G1, DiskT g df F2]) := H.out.own hown ((Chg.refl _ _).grown hgrow (by intro k hk; cases hk))
      clear hown hgrow hwz
      generalize w61.heap.size = bg at *
      go_loopw [15] (fun i wr => ∃ q : Nat, q ≤ es.length ∧ i = .int .i64 q ∧ Hid (Side w wr [ownT 4 (.slice (some ⟨bg, 0, none⟩) es.length es.length) ((trues es.length q).map Value.bool), DiskT o d G1, DiskT g df F2])) (fun i _ => es.length - (intOf i).toNat)
      case atStart => exact ⟨0, Nat.zero_le _, rfl, H⟩
      case round =>
        obtain ⟨q, hq, rfl, HH⟩ := hrel
        clear H
        have H := HH
        clear HH
        have hq0 : (0 : Int) ≤ q := Int.natCast_nonneg _
        by_cases hlt : q < es.length
        · obtain ⟨H2, hf, u0, hu⟩ := H.out.set 0 rfl (k := q) (by rw [List.length_map, trues_length]; exact hlt) (.bool true)
          rw [trues_set] at H2
          replace H2 := Lib.hid H2
          have hq1 : (q : Int) < es.length := by omega
          go_wp2_with fail
          exact ⟨⟨q + 1, by omega, by go_num, H2⟩, by simp [intOf]; omega⟩
        · obtain rfl : q = es.length := by omega
          clear hlt
          go_wp2_with fail
          have T0 := dcrash_any o G1 d _ (trues es.length es.length) wr (H.out.get 1 rfl) (RdV.owned (H.out.get 0 rfl)) (hold_thing H.out (i := 0) (j := 1) rfl rfl (by decide) (fun k hk => by simp [ownT, hk]))
          rw [CA.out] at T0
          refine (T0).mono ?_
          rintro e w81 ⟨rfl, T⟩
          obtain ⟨G2, H1⟩ := H.out.act 1 rfl T.out
          replace H : Hid (Side w w81 [ownT 4 (.slice (some ⟨bg, 0, none⟩) es.length es.length) ((trues es.length es.length).map Value.bool), DiskT o df G2, DiskT g df F2]) := H1
          clear H1 T
          replace H : Hid (Side w w81 [DiskT o df G2, DiskT g df F2]) := H.out.tail
          clear T0
          go_wp2_with fail
          have T0 := dimage_any g F2 df w81 (H.out.get 1 rfl)
          refine T0.mono ?_
          rintro e w82 ⟨x, rfl, O, C⟩
          obtain ⟨xo, xc, rfl⟩ := owns_slice O.out
          replace H : Hid (Side w w82 [ownT 5 (.slice xo df.image.length xc) ((ints df.image).map (Value.int .u8)), DiskT o df G2, DiskT g df F2]) := H.out.own O.out C.out
          clear O C T0
          go_wp2_with fail
          have T0 := dimage_any o G2 df w82 (H.out.get 1 rfl)
          refine T0.mono ?_
          rintro e w83 ⟨y, rfl, O, C⟩
          obtain ⟨yo, yc, rfl⟩ := owns_slice O.out
          replace H : Hid (Side w w83 [ownT 5 (.slice yo df.image.length yc) ((ints df.image).map (Value.int .u8)), ownT 5 (.slice xo df.image.length xc) ((ints df.image).map (Value.int .u8)), DiskT o df G2, DiskT g df F2]) := H.out.own O.out C.out
          clear O C T0
          go_wp2_with fail
          have T0 := dcrash_any o G2 df _ keep w83 (H.out.get 2 rfl) (HK.out.chgNil H.out.chg) (hold_old H.out HK.out (i := 2) rfl)
          rw [CN.out] at T0
          refine (T0).mono ?_
          rintro e w84 ⟨rfl, T⟩
          obtain ⟨G3, H1⟩ := H.out.act 2 rfl T.out
          replace H : Hid (Side w w84 [ownT 5 (.slice yo df.image.length yc) ((ints df.image).map (Value.int .u8)), ownT 5 (.slice xo df.image.length xc) ((ints df.image).map (Value.int .u8)), DiskT o df G3, DiskT g df F2]) := H1
          clear H1 T
          clear T0
          go_wp2_with fail
          have T0 := dimage_any o G3 df w84 (H.out.get 2 rfl)
          refine T0.mono ?_
          rintro e w85 ⟨z, rfl, O, C⟩
          obtain ⟨zo, zc, rfl⟩ := owns_slice O.out
          replace H : Hid (Side w w85 [ownT 5 (.slice zo df.image.length zc) ((ints df.image).map (Value.int .u8)), ownT 5 (.slice yo df.image.length yc) ((ints df.image).map (Value.int .u8)), ownT 5 (.slice xo df.image.length xc) ((ints df.image).map (Value.int .u8)), DiskT o df G3, DiskT g df F2]) := H.out.own O.out C.out
          clear O C T0
          have hil : df.image.length ≤ 140737488355328 := by rw [IL.out]; omega
          go_wp2_with fail
          refine (same_true _ _ (ints df.image) _ (ownT_sl (H.out.get 2 rfl)) (ownT_sl (H.out.get 1 rfl)) (by rw [ints_length]; exact hil)).mono ?_
          rintro e w86 ⟨rfl, q, hw⟩
          replace H : Hid (Side w w86 [ownT 5 (.slice zo df.image.length zc) ((ints df.image).map (Value.int .u8)), ownT 5 (.slice yo df.image.length yc) ((ints df.image).map (Value.int .u8)), ownT 5 (.slice xo df.image.length xc) ((ints df.image).map (Value.int .u8)), DiskT o df G3, DiskT g df F2]) := H.out.quiet (by rw [hw]; exact (Chg.refl [] _).drewN _)
          clear hw
          go_wp2_with fail
          refine (same_true _ _ (ints df.image) _ (ownT_sl (H.out.get 1 rfl)) (ownT_sl (H.out.get 0 rfl)) (by rw [ints_length]; exact hil)).mono ?_
          rintro e w87 ⟨rfl, q, hw⟩
          replace H : Hid (Side w w87 [ownT 5 (.slice zo df.image.length zc) ((ints df.image).map (Value.int .u8)), ownT 5 (.slice yo df.image.length yc) ((ints df.image).map (Value.int .u8)), ownT 5 (.slice xo df.image.length xc) ((ints df.image).map (Value.int .u8)), DiskT o df G3, DiskT g df F2]) := H.out.quiet (by rw [hw]; exact (Chg.refl [] _).drewN _)
          clear hw
          have hfin : (df.image.length : Int) = ((r : Int) + 1) * 128 := by rw [IL.out]; omega
          go_wp2_with fail
          go_ret
          exact ⟨rfl, H.out.chg⟩

end Go.Proofs.Ytjkjkennplfgaaa
