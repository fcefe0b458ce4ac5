/-
  BaySlots walked. By an AI agent.
-/
import Derived.Test.YtljhpdgjajhgbaaByTwo
import Derived.Test.YtljhpdgjajhgbaaByAway
import Derived.Test.YtljhpdgjajhgbaaGSameMore
namespace Go.Proofs.Ytljhpdgjajhgbaa
open Go.RowKit

def sev : List Nat := (List.replicate 128 0).set 9 77

theorem sev_len : sev.length = 128 := by decide +kernel
theorem sev_bs : Bs sev := by unfold Bs; decide +kernel

theorem sev_cells : (List.replicate 128 (Value.int .u8 0)).set 9 (Value.int .u8 77) = (ints sev).map (Value.int .u8) := by
  unfold sev ints
  rw [List.map_set, List.map_set, List.map_replicate, List.map_replicate]
  rfl

namespace Bay

theorem is_len {a b : Bay} (h : a.slots.length = b.slots.length) (s : Int) : a.is s = b.is s := by unfold is; rw [h]

/-- What can be asked of a slot hangs on its disk alone. -/
theorem dev_all {a b : Bay} {s : Int} (hl : a.slots.length = b.slots.length) (h : a.dev s = b.dev s) : a.there s = b.there s ∧ a.has s = b.has s ∧ a.image s = b.image s ∧ a.sectors s = b.sectors s ∧ a.pending s = b.pending s := by
  refine ⟨?_, ?_, ?_, ?_, ?_⟩
  · unfold there; rw [is_len hl, h]
  · unfold has; rw [h]
  · unfold image; rw [h]
  · unfold sectors; rw [h]
  · unfold pending; rw [h]

theorem write_gone {b : Bay} (h : Calm b) {s : Int} (hd : b.dev s = none) (at_ : Int) (x : List Nat) : (b.write s at_ x).dev s = none := by
  have h1 : b.startErr s ≠ 0 := by
    rw [h.err]
    unfold there
    rw [hd]
    split <;> simp
  unfold write
  rw [if_neg h1]
  unfold start
  rw [h.lit, h.trip, hd]
  by_cases hi : b.is s = false
  · rw [if_pos hi]
    exact hd
  · rw [if_neg hi]
    exact hd

/-- A slot of a new bay, with a write. -/
theorem new_write {sizes : List Int} {i n : Nat} (hi : sizes[i]? = some (n : Int)) (x : List Nat) : ((Bay.new sizes).write i 0 x).has i = decide (0 < n) ∧ ((Bay.new sizes).write i 0 x).sectors i = n ∧ ((Bay.new sizes).write i 0 x).slots.length = sizes.length ∧ ((Bay.new sizes).write i 0 x).there i = (if n = 0 then 51 else 0) := by
  obtain ⟨hl, he⟩ := List.getElem?_eq_some_iff.1 hi
  have hn : (Bay.new sizes).slots.length = sizes.length := by simp [Bay.new]
  have h2 : (Bay.new sizes).dev i = if n = 0 then none else some ⟨Dk.new n, none⟩ := by
    rw [new_dev sizes i hl, he]
    unfold slotOf
    by_cases h0 : n = 0
    · subst h0
      rfl
    · rw [if_neg h0, if_neg (by omega)]
      rfl
  have hI : ((Bay.new sizes).write i 0 x).is i = true := is_nat _ (by rw [write_len, hn]; exact hl)
  refine ⟨?_, ?_, by rw [write_len, hn], ?_⟩
  · by_cases h0 : n = 0
    · subst h0
      have h3 := write_gone (b := Bay.new sizes) (s := (i : Int)) (new_calm sizes) (by rw [h2]; rfl) 0 x
      unfold has
      rw [h3]
      all_goals rfl
    · rw [if_neg h0] at h2
      have h3 := ((new_calm sizes).write h2 0 x).2.1
      unfold has
      rw [h3]
      show (!((Dk.new n).write 0 x).bad) = _
      rw [Dk.w_bad]
      exact (decide_eq_true (by omega)).symm
  · by_cases h0 : n = 0
    · subst h0
      have h3 := write_gone (b := Bay.new sizes) (s := (i : Int)) (new_calm sizes) (by rw [h2]; rfl) 0 x
      unfold sectors
      rw [h3]
      all_goals rfl
    · rw [if_neg h0] at h2
      have h3 := ((new_calm sizes).write h2 0 x).2.1
      unfold sectors
      rw [h3]
      show ((Dk.new n).write 0 x).last.length = _
      rw [Dk.w_last]
      exact List.length_replicate
  · by_cases h0 : n = 0
    · subst h0
      have h3 := write_gone (b := Bay.new sizes) (s := (i : Int)) (new_calm sizes) (by rw [h2]; rfl) 0 x
      unfold there
      rw [hI, h3]
      rfl
    · rw [if_neg h0] at h2
      have h3 := ((new_calm sizes).write h2 0 x).2.1
      rw [if_neg h0]
      exact there_ok h3

end Bay

theorem Bay.pending_len {k : Nat} {y : Bay} (h : Bay.Low k y) (s : Int) : (y.pending s).length ≤ k := by
  unfold Bay.pending
  split
  · rename_i d hd
    have := h.caches s d hd
    simpa [Dk.pending] using this
  · simp

theorem Bay.dev_mem {y : Bay} {s : Int} {d : Dev} (h : y.dev s = some d) : ∃ x ∈ y.slots, x.inn = some d := by
  unfold Bay.dev at h
  split at h
  · obtain ⟨x, hx, hd⟩ := Option.bind_eq_some_iff.1 h
    exact ⟨x, List.mem_of_getElem? hx, hd⟩
  · cases h

theorem bay_image_len {w : World} {b : Nat} {F : List Nat} {y : Bay} (h : (BayT b y F).P w) (s : Int) : (y.image s).length ≤ 1048576 := by
  have h1 : BayIn w b F y := h
  unfold Bay.image
  split
  · rename_i d hd
    obtain ⟨x, hx, hi⟩ := Bay.dev_mem hd
    have hf := (h1.fit.devs x hx d (.inl hi)).1
    unfold Dk.image
    split
    · simp
    · exact Dk.image_len hf
  · simp

/-- A remainder, without its sign. -/
theorem tmod_abs {z : Int} {L : Nat} (hL : 1 ≤ L) : ∃ (t : Int) (r : Nat), Int.tmod z L = t ∧ -(L : Int) < t ∧ t < L ∧ r < L ∧ max t (-t) = (r : Int) := by
  have h1 : (Int.tmod z L).natAbs < L := by
    rw [Int.natAbs_tmod]
    exact Nat.mod_lt _ (by omega)
  exact ⟨_, (Int.tmod z L).natAbs, rfl, by omega, by omega, h1, by omega⟩

set_option maxHeartbeats 4000000 in
set_option maxRecDepth 100000 in
theorem baySlots_walk (sv v : Value) (sizes : List Int) (es : List BOpD) (z : Int) (w : World) (hs : RdV w sv (sizes.map (Value.int .i64))) (hi : Is sizes) (hsl : sizes.length ≤ 140737488355328) (hv : BOps w v es) (hz : I64 z) :
    Calls Try.prog 7 #[sv, v, .int .i64 z] w fun e w' => e = .returned (.bool true) ∧ Chg [] w w' := by
  have HV := Lib.hid hv
  have HS := Lib.hid hs
  have HI := Lib.hid hi
  have hlen := hv.len
  obtain ⟨vo, vc, rfl⟩ := hv.slice
  obtain ⟨so, sc, rfl⟩ := hs.slice
  rw [List.length_map] at HS ⊢
  obtain ⟨i0, hi0, hz0, hz1, hz2⟩ := info_parts info_byU8
  replace hi0 := Lib.hid hi0
  replace hz0 := Lib.hid hz0
  replace hz1 := Lib.hid hz1
  replace hz2 := Lib.hid hz2
  have hzl := hz.1
  have hzh := hz.2
  clear hv hs hi hz
  have hsl0 : (0 : Int) ≤ sizes.length := Int.natCast_nonneg _
  go_enter Try.func7, Try.ntmps7
  go_wp2_with fail
  refine (bmuch_any so sizes.length sc _ es w hsl HV.out).mono ?_
  rintro e w1 ⟨much, rfl, hmuch, q1, hw1⟩
  have C1 : Hid (Chg [] w w1) := by rw [hw1]; exact (Chg.refl [] w).drewN q1
  clear hw1
  cases much with
  | true =>
    go_wp2_with fail
    go_ret
    exact ⟨rfl, C1.out⟩
  | false =>
  have hel : es.length ≤ 100000 := by have := hmuch rfl; omega
  clear hmuch
  go_wp2_with fail
  have HE := Bay.newErr_cases sizes
  refine (bnew_any _ sizes w1 (HS.out.chgNil C1.out) HI.out hsl).mono ?_
  rintro e w2 (⟨hno, rfl, C⟩ | ⟨hyes, a, F, rfl, D, N, C⟩)
  · obtain ⟨E, hE⟩ : ∃ E, E = Bay.newErr sizes := ⟨_, rfl⟩
    have hE2 : E = 1 ∨ E = 40 := by rw [hE]; rcases HE with h | h; exact absurd h.1 hno; exact h
    have C2 : Hid (Chg [] w w2) := C1.out.trans C.out
    rw [← hE]
    clear C C1 HE hE hno
    go_wp2_with fail
    refine (bknown_any w2).mono ?_
    rintro e w4 ⟨rfl, C⟩
    have C4 : Hid (Chg [] w w4) := C2.out.trans C.out
    clear C C2
    rcases hE2 with rfl | rfl
    · go_wp2_with fail
      go_ret
      exact ⟨rfl, C4.out⟩
    · go_wp2_with fail
      go_ret
      exact ⟨rfl, C4.out⟩
  replace HE := Lib.hid (HE.resolve_right (by omega)).2
  have H : Hid (Side w w2 [BayT a (Bay.new sizes) F]) := (Side.nil C1.out).add C.out D.out N.out
  clear C1 D N C hyes
  go_wp2_with fail
  refine (bknown_any w2).mono ?_
  rintro e w3 ⟨rfl, C⟩
  replace H : Hid (Side w w3 [BayT a (Bay.new sizes) F]) := H.out.quiet C.out
  clear C
  have hL1 : (1 : Int) ≤ sizes.length := by have := HE.out.1; omega
  have hL2 : (sizes.length : Int) ≤ 17 := by have := HE.out.2.1; omega
  obtain ⟨t, r, htm, ht1, ht2, hr1, hmx⟩ := tmod_abs (z := z) HE.out.1
  have hr2 : (r : Int) < sizes.length := by omega
  have hr0 : (0 : Int) ≤ r := Int.natCast_nonneg _
  have hrI : Hid (I64 (r : Int)) := by have : I64 (r : Int) := ⟨by omega, by omega⟩; exact this
  obtain ⟨nz, hnz⟩ : ∃ u, sizes[r]? = some u := ⟨_, List.getElem?_eq_getElem hr1⟩
  have hnz1 := HE.out.2.2 nz (List.mem_of_getElem? hnz)
  obtain ⟨n, rfl⟩ := Int.eq_ofNat_of_zero_le hnz1.1
  have hn1 : (n : Int) ≤ 8192 := hnz1.2
  have hn0 : (0 : Int) ≤ n := Int.natCast_nonneg _
  have NW := Lib.hid (Bay.new_write hnz sev)
  have ZC : Hid (∀ w', Chg [] w w' → ∃ b2 o2, so = some ⟨b2, o2, none⟩ ∧ w'.cell? ⟨b2, o2 + r, none⟩ = some (.int .i64 (n : Int))) := fun w' c => (HS.out.chgNil c).at (by rw [List.getElem?_map, hnz]; rfl)
  clear hnz hnz1
  obtain ⟨gx, hgx⟩ : ∃ g, g = w3.heap.size := ⟨_, rfl⟩
  go_wp2_with ((with_reducible refine wpList_make_full _ rfl _ _ 26 rfl w3.heap.size 5 i0 _ 1 Try.underlying26 hi0.out hz0.out hz1.out .i64 .i64 (128 : Int) (128 : Int) 128 rfl rfl rfl rfl (by rw [hz2.out]; decide) (by unfold maxLen; decide) (Nat.le_refl _) ?_); intro w4 ow gr; rw [made_replicate (.int .u8 0) 128 rfl] at ow; have H1 := H.out.own ow ((Chg.refl [] w3).grown gr (fun k hk => by cases hk)); obtain ⟨H2, hf, u0, hu⟩ := H1.set 0 rfl (k := 9) (by simp) (.int .u8 77); rw [sev_cells] at H2; replace H2 := Lib.hid H2; clear H H1 ow gr)
  rw [← hgx] at H2 ⊢
  generalize w4.setCell ⟨gx, 9, none⟩ (.int .u8 77) = w5 at *
  replace H : Hid (Side w w5 [ownT 5 (.slice (some ⟨gx, 0, none⟩) 128 128) ((ints sev).map (Value.int .u8)), BayT a (Bay.new sizes) F]) := H2.out
  clear H2 hf hu hgx
  have T0 := bwrite_any a F _ w5 (H.out.get 1 rfl) (r : Int) 0 hrI.out (by unfold I64; decide) _ (ints sev) (ownT_slB (H.out.get 0 rfl)) (ints_by sev_bs) (by rw [ints_length, sev_len]; decide) (fun _ => H.out.holdOff (i := 0) (j := 1) rfl rfl (by decide) (fun k hk => by simp [ownT, hk])) ((Bay.new_low sizes).mono (by decide))
  rw [nats_ints] at T0
  have LL : Hid (Bay.Low 1 ((Bay.new sizes).write r 0 sev)) := (Bay.new_low sizes).write (r : Int) 0 sev
  obtain ⟨y0, hy0⟩ : ∃ y, y = (Bay.new sizes).write r 0 sev := ⟨_, rfl⟩
  rw [← hy0] at T0 LL NW
  refine T0.mono ?_
  rintro e w6 ⟨rfl, T⟩
  obtain ⟨F1, H1⟩ := H.out.act 1 rfl T.out
  replace H : Hid (Side w w6 [BayT a y0 F1]) := H1.tail
  clear H1 T T0 hy0 hi0 hz0 hz1 hz2
  go_wp2_with fail
  obtain ⟨im, him⟩ : ∃ im, im = y0.image r := ⟨_, rfl⟩
  obtain ⟨pe, hpe⟩ : ∃ pe, pe = y0.pending r := ⟨_, rfl⟩
  obtain ⟨er, her⟩ : ∃ er, er = y0.there r := ⟨_, rfl⟩
  replace him := Lib.hid him
  replace hpe := Lib.hid hpe
  replace her := Lib.hid her
  have T0 := bimage_any a F1 y0 w6 (H.out.get 0 rfl) (r : Int) hrI.out
  rw [← him.out, ← her.out] at T0
  refine T0.mono ?_
  rintro e w7 ⟨t5, l5, rfl, O, C⟩
  replace H : Hid (Side w w7 [ownT t5 l5 ((ints im).map (Value.int .u8)), BayT a y0 F1]) := H.out.own O.out C.out
  clear O C T0
  go_wp2_with fail
  have T0 := bpending_any a F1 y0 w7 (H.out.get 1 rfl) (r : Int) hrI.out (LL.out.mono (by decide))
  rw [← hpe.out] at T0
  refine T0.mono ?_
  rintro e w8 ⟨p5, rfl, O, C⟩
  have H1 := H.out.own O.out C.out
  clear H
  have H : Hid (Side w w8 [ownT 3 p5 ((ints pe).map (Value.int .i64)), ownT t5 l5 ((ints im).map (Value.int .u8)), BayT a y0 F1]) := H1
  clear O C T0 H1
  clear htm ht1 ht2 hmx
  go_wp2_with fail
  go_loopw [14] (fun i wr => ∃ (j : Nat) (y : Bay) (F : List Nat), j ≤ es.length ∧ i = .int .i64 (j : Int) ∧ Hid (Bay.Low (j + 1) y) ∧ Hid (y.dev r = y0.dev r) ∧ Hid (y.slots.length = y0.slots.length) ∧ Hid (Side w wr [ownT 3 p5 ((ints pe).map (Value.int .i64)), ownT t5 l5 ((ints im).map (Value.int .u8)), BayT a y F])) (fun i _ => es.length - (intOf i).toNat)
  case atStart => exact ⟨0, _, F1, Nat.zero_le _, rfl, LL, rfl, rfl, H⟩
  case round =>
    obtain ⟨j, y, F2, hj, rfl, LY, DY, SY, HH⟩ := hrel
    clear H LL
    have H := HH
    clear HH
    have hj0 : (0 : Int) ≤ j := Int.natCast_nonneg _
    by_cases hlt : j < es.length
    · have hj1 : (j : Int) < es.length := by omega
      have LO : Hid (Bay.Low 1000000000 y) := LY.out.mono (by omega)
      obtain ⟨a0, ha⟩ : ∃ a, es[j]? = some a := ⟨_, List.getElem?_eq_getElem hlt⟩
      obtain ⟨b2, o2, rfl, hb2, RI⟩ := HV.out.at ha
      have CC : Hid (∀ w', Chg [] w w' → BOpIn w' b2 (o2 + j * 5) a0) := fun w' c => RI.chg hb2 c
      have DO : Hid (a0.data ≠ [] → ∀ k, a0.dataV.ownBlock = some k → k < w.heap.size) := fun hx => RI.s3.old hx
      have KO : Hid (a0.keeps ≠ [] → ∀ k, a0.keepsV.ownBlock = some k → k < w.heap.size) := fun hx => RI.s4.old hx
      have KE : Hid (∀ d ∈ a0.keeps, d.bs ≠ [] → ∀ k, d.v.ownBlock = some k → k < w.heap.size) := RI.s4.olds
      have hK : Hid (I64 a0.kind) := RI.r0
      have hP : Hid (I64 a0.pos) := RI.r1
      have hN : Hid (I64 a0.num) := RI.r2
      have hg : Hid (a0.data.length ≤ 140737488355328) := RI.g3
      have hby := Lib.hid RI.y3
      have hcap : Hid (∀ ao n c, a0.dataV = .slice ao n c → n ≤ c) := RI.p3
      obtain ⟨K, P, N, dv, xs, kv, ks⟩ := a0
      obtain ⟨x3, y3, rfl⟩ : ∃ x3 y3, dv = .slice x3 xs.length y3 := RI.s3.slice
      obtain ⟨x4, y4, rfl⟩ : ∃ x4 y4, kv = .slice x4 ks.length y4 := RI.s4.slice
      have Q0 := CC.out _ H.out.chg
      have k0 := Q0.c0
      have k1 := Q0.c1
      have k2 := Q0.c2
      have k3 := Q0.c3
      have k4 := Q0.c4
      dsimp only at k0 k1 k2 k3 k4 DO KO KE hK hP hN hg hby hcap
      have DV : Hid (∀ w', Chg [] w w' → Sl w' (.slice x3 xs.length y3) xs) := fun w' c => (CC.out w' c).s3
      have KV : Hid (∀ w', Chg [] w w' → BRs w' (.slice x4 ks.length y4) ks) := fun w' c => (CC.out w' c).s4
      clear CC RI Q0 ha
      have BX := Blk.made wr [.int .i64 K, .int .i64 P, .int .i64 N, .slice x3 xs.length y3, .slice x4 ks.length y4] 28
      have HA := Lib.hid (H.out.quiet ((Chg.refl [] wr).alloc (.cells #[.int .i64 K, .int .i64 P, .int .i64 N, .slice x3 xs.length y3, .slice x4 ks.length y4] 28)))
      have c0 := BX.cell (j := 0) rfl
      have c1 := BX.cell (j := 1) rfl
      have c2 := BX.cell (j := 2) rfl
      have c3 := BX.cell (j := 3) rfl
      have c4 := BX.cell (j := 4) rfl
      clear BX
      by_cases hps : P = (r : Int)
      · subst hps
        clear hK hP hN hg hby hcap DO KO KE DV KV
        clear H
        have H := HA
        clear HA
        go_wp2_with fail
        exact ⟨⟨j + 1, y, F2, by omega, by go_num, (show Bay.Low (j + 1 + 1) _ from LY.out.mono (by omega)), DY, SY, H⟩, by simp [intOf]; omega⟩
      have hps2 : ¬ P = (r : Int) := hps
      by_cases hpl : K = 1 ∨ K = 2 ∨ K = 3
      · have T1 := Lib.hid (bplain_any a F2 y _ (HA.out.get 2 rfl) K P N (.slice x3 xs.length y3) (.slice x4 ks.length y4) xs hP.out hN.out (DV.out _ HA.out.chg) hby.out hg.out (fun hx => HA.out.holdOld (j := 2) rfl (DO.out hx)) LO.out)
        clear hK hP hN hg hby hcap DO KO KE DV KV
        rcases hpl with rfl | rfl | rfl
        · go_wp2_with fail
          refine T1.out.mono ?_
          rintro e w9 ⟨u, rfl, T⟩
          obtain ⟨t9, F3, H1⟩ := HA.out.actOwn 2 rfl T.out
          clear H
          have H : Hid (Side w w9 [ownT 3 p5 ((ints pe).map (Value.int .i64)), ownT t5 l5 ((ints im).map (Value.int .u8)), BayT a (y.plain 1 P N (nats xs)) F3]) := H1.tail
          clear T T1 H1 HA
          go_wp2_with fail
          exact ⟨⟨j + 1, _, F3, by omega, by go_num, (show Bay.Low (j + 1 + 1) _ from LY.out.plain 1 P N (nats xs)), (show Bay.dev _ _ = _ from (Bay.plain_other hps2).trans DY.out), (show _ = _ from (Bay.plain_len _ _ _ _ _).trans SY.out), H⟩, by simp [intOf]; omega⟩
        · go_wp2_with fail
          refine T1.out.mono ?_
          rintro e w9 ⟨u, rfl, T⟩
          obtain ⟨t9, F3, H1⟩ := HA.out.actOwn 2 rfl T.out
          clear H
          have H : Hid (Side w w9 [ownT 3 p5 ((ints pe).map (Value.int .i64)), ownT t5 l5 ((ints im).map (Value.int .u8)), BayT a (y.plain 2 P N (nats xs)) F3]) := H1.tail
          clear T T1 H1 HA
          go_wp2_with fail
          exact ⟨⟨j + 1, _, F3, by omega, by go_num, (show Bay.Low (j + 1 + 1) _ from LY.out.plain 2 P N (nats xs)), (show Bay.dev _ _ = _ from (Bay.plain_other hps2).trans DY.out), (show _ = _ from (Bay.plain_len _ _ _ _ _).trans SY.out), H⟩, by simp [intOf]; omega⟩
        · go_wp2_with fail
          refine T1.out.mono ?_
          rintro e w9 ⟨u, rfl, T⟩
          obtain ⟨t9, F3, H1⟩ := HA.out.actOwn 2 rfl T.out
          clear H
          have H : Hid (Side w w9 [ownT 3 p5 ((ints pe).map (Value.int .i64)), ownT t5 l5 ((ints im).map (Value.int .u8)), BayT a (y.plain 3 P N (nats xs)) F3]) := H1.tail
          clear T T1 H1 HA
          go_wp2_with fail
          exact ⟨⟨j + 1, _, F3, by omega, by go_num, (show Bay.Low (j + 1 + 1) _ from LY.out.plain 3 P N (nats xs)), (show Bay.dev _ _ = _ from (Bay.plain_other hps2).trans DY.out), (show _ = _ from (Bay.plain_len _ _ _ _ _).trans SY.out), H⟩, by simp [intOf]; omega⟩
      obtain ⟨n1, n2, n3⟩ : ¬ K = 1 ∧ ¬ K = 2 ∧ ¬ K = 3 := by omega
      clear hpl
      by_cases hk4 : K = 4
      · subst hk4
        have T0 := Lib.hid (bfail_any a F2 y _ (HA.out.get 2 rfl) P hP.out)
        clear hK hP hN hg hby hcap DO KO KE DV KV
        go_wp2_with fail
        refine T0.out.mono ?_
        rintro e w9 ⟨rfl, T⟩
        obtain ⟨F3, H1⟩ := HA.out.act 2 rfl T.out
        clear H
        have H : Hid (Side w w9 [ownT 3 p5 ((ints pe).map (Value.int .i64)), ownT t5 l5 ((ints im).map (Value.int .u8)), BayT a (y.fail P) F3]) := H1
        clear T T0 H1 HA
        go_wp2_with fail
        exact ⟨⟨j + 1, _, F3, by omega, by go_num, (show Bay.Low (j + 1 + 1) _ from (LY.out.fail P).mono (by omega)), (show Bay.dev _ _ = _ from (Bay.fail_other hps2).trans DY.out), (show _ = _ from (Bay.fail_len _ P).trans SY.out), H⟩, by simp [intOf]; omega⟩
      by_cases hk5 : K = 5
      · subst hk5
        have T0 := Lib.hid (bwear_any a F2 y _ (HA.out.get 2 rfl) P N hP.out hN.out)
        clear hK hP hN hg hby hcap DO KO KE DV KV
        go_wp2_with fail
        refine T0.out.mono ?_
        rintro e w9 ⟨rfl, T⟩
        obtain ⟨F3, H1⟩ := HA.out.act 2 rfl T.out
        clear H
        have H : Hid (Side w w9 [ownT 3 p5 ((ints pe).map (Value.int .i64)), ownT t5 l5 ((ints im).map (Value.int .u8)), BayT a (y.wear P N) F3]) := H1
        clear T T0 H1 HA
        go_wp2_with fail
        exact ⟨⟨j + 1, _, F3, by omega, by go_num, (show Bay.Low (j + 1 + 1) _ from (LY.out.wear P N).mono (by omega)), (show Bay.dev _ _ = _ from (Bay.wear_other hps2).trans DY.out), (show _ = _ from (Bay.wear_len _ P N).trans SY.out), H⟩, by simp [intOf]; omega⟩
      by_cases hk6 : K = 6
      · subst hk6
        have T0 := Lib.hid (bswap_any a F2 y _ (HA.out.get 2 rfl) P N hP.out hN.out)
        clear hK hP hN hg hby hcap DO KO KE DV KV
        go_wp2_with fail
        refine T0.out.mono ?_
        rintro e w9 ⟨rfl, T⟩
        obtain ⟨F3, H1⟩ := HA.out.act 2 rfl T.out
        clear H
        have H : Hid (Side w w9 [ownT 3 p5 ((ints pe).map (Value.int .i64)), ownT t5 l5 ((ints im).map (Value.int .u8)), BayT a (y.swap P N) F3]) := H1
        clear T T0 H1 HA
        go_wp2_with fail
        exact ⟨⟨j + 1, _, F3, by omega, by go_num, (show Bay.Low (j + 1 + 1) _ from (LY.out.swap P N).mono (by omega)), (show Bay.dev _ _ = _ from (Bay.swap_other hps2).trans DY.out), (show _ = _ from (Bay.swap_len _ P N).trans SY.out), H⟩, by simp [intOf]; omega⟩
      by_cases hk7 : K = 7
      · subst hk7
        have T0 := Lib.hid (bload_any a F2 y _ (HA.out.get 2 rfl) P hP.out (.slice x3 xs.length y3) xs (DV.out _ HA.out.chg) hby.out hg.out hcap.out)
        clear hK hP hN hg hby hcap DO KO KE DV KV
        go_wp2_with fail
        refine T0.out.mono ?_
        rintro e w9 ⟨rfl, T⟩
        obtain ⟨F3, H1⟩ := HA.out.act 2 rfl T.out
        clear H
        have H : Hid (Side w w9 [ownT 3 p5 ((ints pe).map (Value.int .i64)), ownT t5 l5 ((ints im).map (Value.int .u8)), BayT a (y.load P (nats xs)) F3]) := H1
        clear T T0 H1 HA
        go_wp2_with fail
        exact ⟨⟨j + 1, _, F3, by omega, by go_num, (show Bay.Low (j + 1 + 1) _ from (LY.out.load P (nats xs)).mono (by omega)), (show Bay.dev _ _ = _ from (Bay.load_other hps2).trans DY.out), (show _ = _ from (Bay.load_len _ P (nats xs)).trans SY.out), H⟩, by simp [intOf]; omega⟩
      by_cases hk8 : K = 8
      · subst hk8
        have T0 := Lib.hid (bpull_any a F2 y _ (HA.out.get 2 rfl) P hP.out)
        clear hK hP hN hg hby hcap DO KO KE DV KV
        go_wp2_with fail
        refine T0.out.mono ?_
        rintro e w9 ⟨rfl, T⟩
        obtain ⟨F3, H1⟩ := HA.out.act 2 rfl T.out
        clear H
        have H : Hid (Side w w9 [ownT 3 p5 ((ints pe).map (Value.int .i64)), ownT t5 l5 ((ints im).map (Value.int .u8)), BayT a (y.pull P) F3]) := H1
        clear T T0 H1 HA
        go_wp2_with fail
        exact ⟨⟨j + 1, _, F3, by omega, by go_num, (show Bay.Low (j + 1 + 1) _ from (LY.out.pull P).mono (by omega)), (show Bay.dev _ _ = _ from (Bay.pull_other hps2).trans DY.out), (show _ = _ from (Bay.pull_len _ P).trans SY.out), H⟩, by simp [intOf]; omega⟩
      by_cases hk9 : K = 9
      · subst hk9
        have T0 := Lib.hid (bpush_any a F2 y _ (HA.out.get 2 rfl) P hP.out)
        clear hK hP hN hg hby hcap DO KO KE DV KV
        go_wp2_with fail
        refine T0.out.mono ?_
        rintro e w9 ⟨rfl, T⟩
        obtain ⟨F3, H1⟩ := HA.out.act 2 rfl T.out
        clear H
        have H : Hid (Side w w9 [ownT 3 p5 ((ints pe).map (Value.int .i64)), ownT t5 l5 ((ints im).map (Value.int .u8)), BayT a (y.push P) F3]) := H1
        clear T T0 H1 HA
        go_wp2_with fail
        exact ⟨⟨j + 1, _, F3, by omega, by go_num, (show Bay.Low (j + 1 + 1) _ from (LY.out.push P).mono (by omega)), (show Bay.dev _ _ = _ from (Bay.push_other hps2).trans DY.out), (show _ = _ from (Bay.push_len _ P).trans SY.out), H⟩, by simp [intOf]; omega⟩
      clear hK hP hN hg hby hcap DO KO KE DV KV
      clear H
      have H := HA
      clear HA
      go_wp2_with fail
      exact ⟨⟨j + 1, y, F2, by omega, by go_num, (show Bay.Low (j + 1 + 1) _ from LY.out.mono (by omega)), DY, SY, H⟩, by simp [intOf]; omega⟩
    · obtain rfl : j = es.length := by omega
      clear hlt hj hj0
      have AL := Lib.hid (Bay.dev_all SY.out DY.out)
      go_wp2_with fail
      have T0 := bimage_any a F2 y wr (H.out.get 2 rfl) (r : Int) hrI.out
      rw [AL.out.2.2.1, AL.out.1, ← him.out, ← her.out] at T0
      refine T0.mono ?_
      rintro e w9 ⟨t6, l6, rfl, O, C⟩
      replace H : Hid (Side w w9 [ownT t6 l6 ((ints im).map (Value.int .u8)), ownT 3 p5 ((ints pe).map (Value.int .i64)), ownT t5 l5 ((ints im).map (Value.int .u8)), BayT a y F2]) := H.out.own O.out C.out
      clear O C T0
      go_wp2_with fail
      have imL : im.length ≤ 1048576 := by rw [him.out, ← AL.out.2.2.1]; exact bay_image_len (H.out.get 3 rfl) _
      have peL : pe.length ≤ 1000000 := by rw [hpe.out, ← AL.out.2.2.2.2]; exact Nat.le_trans (Bay.pending_len LY.out _) (by omega)
      have s1 : Hid (∀ w', Side w w' [ownT t6 l6 ((ints im).map (Value.int .u8)), ownT 3 p5 ((ints pe).map (Value.int .i64)), ownT t5 l5 ((ints im).map (Value.int .u8)), BayT a y F2] → Calls Try.prog 18 #[l5, l6] w' fun e w2 => e = .returned (.bool true) ∧ ∃ q, w2 = w'.drewN q) := fun w' S => same_true _ _ (ints im) _ (ownT_slB (S.get 2 rfl)) (ownT_slB (S.get 0 rfl)) (by rw [ints_length]; omega)
      have s2 : Hid (∀ w', Side w w' [ownT t6 l6 ((ints im).map (Value.int .u8)), ownT 3 p5 ((ints pe).map (Value.int .i64)), ownT t5 l5 ((ints im).map (Value.int .u8)), BayT a y F2] → Calls Try.prog 23 #[.pointer (some ⟨a, 0, none⟩), .int .i64 (r : Int)] w' fun e w2 => ∃ u, e = .returned u ∧ Hid (w2.ownsRow w'.heap.size 3 1 u pe.length ((ints pe).map (Value.int .i64))) ∧ Hid (Chg [] w' w2)) := fun w' S => by
        have T0 := bpending_any a F2 y w' (S.get 3 rfl) (r : Int) hrI.out (LY.out.mono (by omega))
        rw [AL.out.2.2.2.2, ← hpe.out] at T0
        exact T0
      have s3 : Hid (∀ p6 w', Side w w' [ownT 3 p6 ((ints pe).map (Value.int .i64)), ownT t6 l6 ((ints im).map (Value.int .u8)), ownT 3 p5 ((ints pe).map (Value.int .i64)), ownT t5 l5 ((ints im).map (Value.int .u8)), BayT a y F2] → Calls Try.prog 39 #[p5, p6] w' fun e w2 => e = .returned (.bool true) ∧ ∃ q, w2 = w'.drewN q) := fun p6 w' S => same_ints _ _ (ints pe) _ (RdV.owned (S.get 2 rfl)) (RdV.owned (S.get 0 rfl)) (by rw [ints_length]; omega)
      have s4 : Hid (∀ p6 w', Side w w' [ownT 3 p6 ((ints pe).map (Value.int .i64)), ownT t6 l6 ((ints im).map (Value.int .u8)), ownT 3 p5 ((ints pe).map (Value.int .i64)), ownT t5 l5 ((ints im).map (Value.int .u8)), BayT a y F2] → Calls Try.prog 31 #[.pointer (some ⟨a, 0, none⟩), .int .i64 (r : Int)] w' fun e w2 => e = .returned (.bool (decide (0 < n))) ∧ ∃ q, w2 = w'.drewN q) := fun p6 w' S => by
        have T0 := bhas_any a F2 y w' (S.get 4 rfl) (r : Int) hrI.out
        rw [AL.out.2.1, NW.out.1] at T0
        exact T0
      have s5 : Hid (∀ p6 w', Side w w' [ownT 3 p6 ((ints pe).map (Value.int .i64)), ownT t6 l6 ((ints im).map (Value.int .u8)), ownT 3 p5 ((ints pe).map (Value.int .i64)), ownT t5 l5 ((ints im).map (Value.int .u8)), BayT a y F2] → Calls Try.prog 32 #[.pointer (some ⟨a, 0, none⟩), .int .i64 (r : Int)] w' fun e w2 => e = .returned (.int .i64 (n : Int)) ∧ ∃ q, w2 = w'.drewN q) := fun p6 w' S => by
        have T0 := bsectors_any a F2 y w' (S.get 4 rfl) (r : Int) hrI.out
        rw [AL.out.2.2.2.1, NW.out.2.1] at T0
        exact T0
      obtain ⟨b2, o2, rfl, f0⟩ := ZC.out _ H.out.chg
      have QQ : Hid (∀ w', Chg [] w w' → w'.cell? ⟨b2, o2 + r, none⟩ = some (.int .i64 (n : Int))) := fun w' c => by
        obtain ⟨b3, o3, e3, c3⟩ := ZC.out w' c
        cases e3
        exact c3
      have herr : er = (if n = 0 then 51 else 0) := by rw [her.out]; exact NW.out.2.2.2
      clear ZC AL NW him hpe LY DY SY imL peL her
      by_cases hnz : n = 0
      · subst hnz
        obtain rfl : er = 51 := herr
        rw [show decide (0 < 0) = false from rfl] at s4
        replace QQ : Hid (∀ w', Chg [] w w' → w'.cell? ⟨b2, o2 + r, none⟩ = some (.int .i64 0)) := QQ
        replace s5 : Hid (∀ p6 w', Side w w' [ownT 3 p6 ((ints pe).map (Value.int .i64)), ownT t6 l6 ((ints im).map (Value.int .u8)), ownT 3 p5 ((ints pe).map (Value.int .i64)), ownT t5 l5 ((ints im).map (Value.int .u8)), BayT a y F2] → Calls Try.prog 32 #[.pointer (some ⟨a, 0, none⟩), .int .i64 (r : Int)] w' fun e w2 => e = .returned (.int .i64 0) ∧ ∃ q, w2 = w'.drewN q) := s5
        replace f0 : w9.cell? ⟨b2, o2 + r, none⟩ = some (.int .i64 0) := f0
        go_region_held3 (fun w' : World => w'.cell? ⟨b2, o2 + r, none⟩ = some (.int .i64 0)) (first | exact QQ.out _ H14.out.chg | exact QQ.out _ H13.out.chg | exact QQ.out _ H12.out.chg | exact QQ.out _ H11.out.chg | exact QQ.out _ H10.out.chg | exact f0) (first
          | (go_at_call 18; refine (s1.out _ (H.out.quiet ((Chg.refl [] w9).drewN 1))).mono ?_; rintro e w10 ⟨rfl, qd, hw⟩; have H10 : Hid (Side w w10 [ownT t6 l6 ((ints im).map (Value.int .u8)), ownT 3 p5 ((ints pe).map (Value.int .i64)), ownT t5 l5 ((ints im).map (Value.int .u8)), BayT a y F2]) := (H.out.quiet ((Chg.refl [] w9).drewN 1)).quiet (by rw [hw]; exact (Chg.refl [] _).drewN _); clear hw)
          | (go_at_call 23; refine (s2.out _ H10.out).mono ?_; rintro e w11 ⟨p6, rfl, O, C⟩; have H11 : Hid (Side w w11 [ownT 3 p6 ((ints pe).map (Value.int .i64)), ownT t6 l6 ((ints im).map (Value.int .u8)), ownT 3 p5 ((ints pe).map (Value.int .i64)), ownT t5 l5 ((ints im).map (Value.int .u8)), BayT a y F2]) := H10.out.own O.out C.out)
          | (go_at_call 39; refine (s3.out _ _ H11.out).mono ?_; rintro e w12 ⟨rfl, qd2, hw2⟩; have H12 : Hid (Side w w12 [ownT 3 p6 ((ints pe).map (Value.int .i64)), ownT t6 l6 ((ints im).map (Value.int .u8)), ownT 3 p5 ((ints pe).map (Value.int .i64)), ownT t5 l5 ((ints im).map (Value.int .u8)), BayT a y F2]) := H11.out.quiet (by rw [hw2]; exact (Chg.refl [] _).drewN _); clear hw2)
          | (go_at_call 31; refine (s4.out _ _ H12.out).mono ?_; rintro e w13 ⟨rfl, qd3, hw3⟩; have H13 : Hid (Side w w13 [ownT 3 p6 ((ints pe).map (Value.int .i64)), ownT t6 l6 ((ints im).map (Value.int .u8)), ownT 3 p5 ((ints pe).map (Value.int .i64)), ownT t5 l5 ((ints im).map (Value.int .u8)), BayT a y F2]) := H12.out.quiet (by rw [hw3]; exact (Chg.refl [] _).drewN _); clear hw3)
          | (go_at_call 32; refine (s5.out _ _ H13.out).mono ?_; rintro e w14 ⟨rfl, qd4, hw4⟩; have H14 : Hid (Side w w14 [ownT 3 p6 ((ints pe).map (Value.int .i64)), ownT t6 l6 ((ints im).map (Value.int .u8)), ownT 3 p5 ((ints pe).map (Value.int .i64)), ownT t5 l5 ((ints im).map (Value.int .u8)), BayT a y F2]) := H13.out.quiet (by rw [hw4]; exact (Chg.refl [] _).drewN _); clear hw4))
        all_goals (have CW : Hid (Chg [] w w14) := H14.out.chg; clear H s1 s2 s3 s4 s5 H10 H11 H12 H13 H14 O C QQ f0; go_wp2_with fail; go_ret; exact ⟨rfl, CW.out⟩)
      · have hn2 : (0 : Int) < n := by omega
        have hn3 : 0 < n := by omega
        obtain rfl : er = 0 := by rw [herr, if_neg hnz]
        clear herr
        rw [show decide (0 < n) = true from decide_eq_true hn3] at s4
        go_region_held3 (fun w' : World => w'.cell? ⟨b2, o2 + r, none⟩ = some (.int .i64 (n : Int))) (first | exact QQ.out _ H14.out.chg | exact QQ.out _ H13.out.chg | exact QQ.out _ H12.out.chg | exact QQ.out _ H11.out.chg | exact QQ.out _ H10.out.chg | exact f0) (first
          | (go_at_call 18; refine (s1.out _ (H.out.quiet ((Chg.refl [] w9).drewN 1))).mono ?_; rintro e w10 ⟨rfl, qd, hw⟩; have H10 : Hid (Side w w10 [ownT t6 l6 ((ints im).map (Value.int .u8)), ownT 3 p5 ((ints pe).map (Value.int .i64)), ownT t5 l5 ((ints im).map (Value.int .u8)), BayT a y F2]) := (H.out.quiet ((Chg.refl [] w9).drewN 1)).quiet (by rw [hw]; exact (Chg.refl [] _).drewN _); clear hw)
          | (go_at_call 23; refine (s2.out _ H10.out).mono ?_; rintro e w11 ⟨p6, rfl, O, C⟩; have H11 : Hid (Side w w11 [ownT 3 p6 ((ints pe).map (Value.int .i64)), ownT t6 l6 ((ints im).map (Value.int .u8)), ownT 3 p5 ((ints pe).map (Value.int .i64)), ownT t5 l5 ((ints im).map (Value.int .u8)), BayT a y F2]) := H10.out.own O.out C.out)
          | (go_at_call 39; refine (s3.out _ _ H11.out).mono ?_; rintro e w12 ⟨rfl, qd2, hw2⟩; have H12 : Hid (Side w w12 [ownT 3 p6 ((ints pe).map (Value.int .i64)), ownT t6 l6 ((ints im).map (Value.int .u8)), ownT 3 p5 ((ints pe).map (Value.int .i64)), ownT t5 l5 ((ints im).map (Value.int .u8)), BayT a y F2]) := H11.out.quiet (by rw [hw2]; exact (Chg.refl [] _).drewN _); clear hw2)
          | (go_at_call 31; refine (s4.out _ _ H12.out).mono ?_; rintro e w13 ⟨rfl, qd3, hw3⟩; have H13 : Hid (Side w w13 [ownT 3 p6 ((ints pe).map (Value.int .i64)), ownT t6 l6 ((ints im).map (Value.int .u8)), ownT 3 p5 ((ints pe).map (Value.int .i64)), ownT t5 l5 ((ints im).map (Value.int .u8)), BayT a y F2]) := H12.out.quiet (by rw [hw3]; exact (Chg.refl [] _).drewN _); clear hw3)
          | (go_at_call 32; refine (s5.out _ _ H13.out).mono ?_; rintro e w14 ⟨rfl, qd4, hw4⟩; have H14 : Hid (Side w w14 [ownT 3 p6 ((ints pe).map (Value.int .i64)), ownT t6 l6 ((ints im).map (Value.int .u8)), ownT 3 p5 ((ints pe).map (Value.int .i64)), ownT t5 l5 ((ints im).map (Value.int .u8)), BayT a y F2]) := H13.out.quiet (by rw [hw4]; exact (Chg.refl [] _).drewN _); clear hw4))
        all_goals (have CW : Hid (Chg [] w w14) := H14.out.chg; clear H s1 s2 s3 s4 s5 H10 H11 H12 H13 H14 O C QQ f0; go_wp2_with fail; go_ret; exact ⟨rfl, CW.out⟩)

end Go.Proofs.Ytljhpdgjajhgbaa
