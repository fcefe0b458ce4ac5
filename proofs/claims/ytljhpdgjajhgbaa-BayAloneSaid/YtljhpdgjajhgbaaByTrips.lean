/-
  BayTrips walked. By an AI agent.
-/
import Derived.Test.YtljhpdgjajhgbaaByTwin
import Derived.Test.YtljhpdgjajhgbaaBySlots
import Derived.Test.YtljhpdgjajhgbaaByWears
namespace Go.Proofs.Ytljhpdgjajhgbaa
open Go.RowKit


theorem Bay.asked_fit {y : Bay} (h : y.Fit) (s : Int) : (y.asked s).disk.Fit := by
  unfold Bay.asked
  split
  · rename_i d hd
    obtain ⟨x, hx, hi⟩ := Bay.dev_mem hd
    have hf := (h.devs x hx d (.inl hi)).1
    unfold Dev.step
    split
    · exact hf.fail
    · exact hf
    · exact hf
  · exact Dk.Fit.new (by decide) (by decide)

theorem bplain_len {w : World} {b : Nat} {F : List Nat} {y : Bay} (h : (BayT b y F).P w) (k s n : Int) : (y.plainVal k s n).length ≤ 128 := by
  have h1 : BayIn w b F y := h
  unfold Bay.plainVal
  split
  · unfold Bay.readVal
    split
    · exact Dev.val_len (e := y.asked s) (Bay.asked_fit h1.fit s) 1 n
    · simp
  · simp

theorem bimage_len {w : World} {b : Nat} {F : List Nat} {y : Bay} (h : (BayT b y F).P w) (s : Int) : (y.image s).length ≤ 1048576 := by
  have h1 : BayIn w b F y := h
  unfold Bay.image
  split
  · rename_i d hd
    obtain ⟨x, hx, hi⟩ := Bay.dev_mem hd
    have hf := (h1.fit.devs x hx d (.inl hi)).1
    unfold Dk.image
    split
    · simp
    · exact Dk.image_len hf
  · simp

theorem btotal_any (b : Nat) (F : List Nat) (y : Bay) (w : World) (h : (BayT b y F).P w) (hl : y.Low 1000000000) :
    Calls Try.prog 26 #[.pointer (some ⟨b, 0, none⟩)] w fun e w' => e = .returned (.int .i64 (y.tot : Int)) ∧ Hid (Chg [] w w') := by
  have R := Lib.hid (bcounts_any b F y w h)
  have hr : (y.reads : Int) ≤ 1000000000 := by have := hl.reads; omega
  have hw : (y.writes : Int) ≤ 1000000000 := by have := hl.writes; omega
  have hf : (y.flushes : Int) ≤ 1000000000 := by have := hl.flushes; omega
  have hr0 : (0 : Int) ≤ y.reads := Int.natCast_nonneg _
  have hw0 : (0 : Int) ≤ y.writes := Int.natCast_nonneg _
  have hf0 : (0 : Int) ≤ y.flushes := Int.natCast_nonneg _
  have ht : (y.tot : Int) = y.reads + y.writes + y.flushes := by unfold Bay.tot; omega
  replace ht := Lib.hid ht
  clear h hl
  go_enter Try.func26, Try.ntmps26
  go_wp2_with fail
  refine R.out.mono ?_
  rintro e w1 ⟨rfl, C⟩
  clear R
  go_wp2_with fail
  go_ret
  rw [ht.out]
  exact ⟨rfl, C.out.alloc _⟩

/-- An act with lists of bools alone. -/
theorem keeps_ops {w : World} {kv : Value} {ks : List BoolD} (h : BRs w kv ks) :
    BOps (w.alloc (.cells #[.int .i64 0, .int .i64 0, .int .i64 0, .slice none 0 0, kv] 28)) (.slice (some ⟨w.heap.size, 0, none⟩) 1 1) [⟨0, 0, 0, .slice none 0 0, [], kv, ks⟩] := by
  have BX := Blk.made w [.int .i64 0, .int .i64 0, .int .i64 0, .slice none 0 0, kv] 28
  refine .inr ⟨_, 0, 1, rfl, BX.lt, (show 1 ≤ 140737488355328 by decide), fun i d hd => ?_⟩
  match i, hd with
  | 0, hd =>
    obtain rfl := (Option.some.inj hd).symm
    exact ⟨BX.cell (j := 0) rfl, BX.cell (j := 1) rfl, BX.cell (j := 2) rfl, BX.cell (j := 3) rfl, BX.cell (j := 4) rfl, (show (-9223372036854775808 : Int) ≤ 0 ∧ (0 : Int) ≤ 9223372036854775807 by decide), (show (-9223372036854775808 : Int) ≤ 0 ∧ (0 : Int) ≤ 9223372036854775807 by decide), (show (-9223372036854775808 : Int) ≤ 0 ∧ (0 : Int) ≤ 9223372036854775807 by decide), .inl ⟨rfl, _, _, rfl⟩, By.nil, (show 0 ≤ 140737488355328 by decide), (fun ao n c h => by cases h; exact Nat.le_refl _), h.chgNil ((Chg.refl _ _).alloc _)⟩

set_option maxHeartbeats 4000000 in
set_option maxRecDepth 100000 in
theorem bayTrips_walk (sv v : Value) (sizes : List Int) (es : List BOpD) (z : Int) (kkv : Value) (kks : List BoolD) (w : World) (hs : RdV w sv (sizes.map (Value.int .i64))) (hi : Is sizes) (hsl : sizes.length ≤ 140737488355328) (hv : BOps w v es) (hz : I64 z) (hk : BRs w kkv kks) :
    Calls Try.prog 4 #[sv, v, .int .i64 z, kkv] w fun e w' => e = .returned (.bool true) ∧ Chg [] w w' := by
  have HV := Lib.hid hv
  have HS := Lib.hid hs
  have HI := Lib.hid hi
  have HZ := Lib.hid hz
  have HKK := Lib.hid hk
  have hlen := hv.len
  obtain ⟨vo, vc, rfl⟩ := hv.slice
  obtain ⟨so, sc, rfl⟩ := hs.slice
  obtain ⟨kko, kkc, rfl⟩ := hk.slice
  rw [List.length_map] at HS ⊢
  have hz1 := hz.1
  have hz2 := hz.2
  clear hv hs hi hz hk
  have hsl0 : (0 : Int) ≤ sizes.length := Int.natCast_nonneg _
  go_enter Try.func4, Try.ntmps4
  go_wp2_with fail
  refine (bmuch_any so sizes.length sc _ es w hsl HV.out).mono ?_
  rintro e w1 ⟨much, rfl, hmuch, q1, hw1⟩
  have C1 : Hid (Chg [] w w1) := by rw [hw1]; exact (Chg.refl [] w).drewN q1
  clear hw1
  cases much with
  | true =>
    go_wp2_with fail
    go_ret
    exact ⟨rfl, C1.out⟩
  | false =>
  have hel : es.length ≤ 100000 := by have := hmuch rfl; omega
  clear hmuch
  go_wp2_with fail
  refine (bmuch_any so sizes.length sc _ _ _ hsl (keeps_ops (HKK.out.chgNil C1.out))).mono ?_
  rintro e w1b ⟨much, rfl, _, q1, hw1⟩
  have C1b : Hid (Chg [] w w1b) := by rw [hw1]; exact (C1.out.alloc _).drewN q1
  clear hw1 C1
  cases much with
  | true =>
    go_wp2_with fail
    go_ret
    exact ⟨rfl, C1b.out⟩
  | false =>
  go_wp2_with fail
  have HE := Bay.newErr_cases sizes
  refine (bnew_any _ sizes w1b (HS.out.chgNil C1b.out) HI.out hsl).mono ?_
  rintro e w2 (⟨hno, rfl, C⟩ | ⟨hyes, a, F, rfl, D, N, C⟩)
  · obtain ⟨E, hE⟩ : ∃ E, E = Bay.newErr sizes := ⟨_, rfl⟩
    have hE2 : E = 1 ∨ E = 40 := by rw [hE]; rcases HE with h | h; exact absurd h.1 hno; exact h
    have C2 : Hid (Chg [] w w2) := C1b.out.trans C.out
    rw [← hE]
    clear C C1b HE
    go_wp2_with fail
    refine (bnew_any _ sizes w2 (HS.out.chgNil C2.out) HI.out hsl).mono ?_
    rintro e w3 (⟨_, rfl, C⟩ | ⟨hyes, _⟩)
    case inr => exact absurd hyes hno
    have C3 : Hid (Chg [] w w3) := C2.out.trans C.out
    rw [← hE]
    clear C C2 hE hno
    go_wp2_with fail
    refine (bknown_any w3).mono ?_
    rintro e w4 ⟨rfl, C⟩
    have C4 : Hid (Chg [] w w4) := C3.out.trans C.out
    clear C C3
    rcases hE2 with rfl | rfl
    · go_wp2_with fail
      go_ret
      exact ⟨rfl, C4.out⟩
    · go_wp2_with fail
      go_ret
      exact ⟨rfl, C4.out⟩
  replace HE := Lib.hid (HE.resolve_right (by omega)).2
  have H : Hid (Side w w2 [BayT a (Bay.new sizes) F]) := (Side.nil C1b.out).add C.out D.out N.out
  clear C1b D N C
  go_wp2_with fail
  refine (bnew_any _ sizes w2 (HS.out.chgNil H.out.chg) HI.out hsl).mono ?_
  rintro e w3 (⟨hno, _⟩ | ⟨_, b, G, rfl, D, N, C⟩)
  · exact absurd hyes hno
  replace H : Hid (Side w w3 [BayT b (Bay.new sizes) G, BayT a (Bay.new sizes) F]) := H.out.add C.out D.out N.out
  clear D N C hyes
  go_wp2_with fail
  refine (bknown_any w3).mono ?_
  rintro e w4 ⟨rfl, C⟩
  replace H : Hid (Side w w4 [BayT b (Bay.new sizes) G, BayT a (Bay.new sizes) F]) := H.out.quiet C.out
  clear C
  go_wp2_with fail
  by_cases hzn : z < 0
  · have hzn2 := hzn
    have T0 := btrip_any b G _ w4 (H.out.get 0 rfl) z HZ.out
    have e1 : (Bay.new sizes).tripErr z = 1 := if_pos hzn
    rw [show (Bay.new sizes).tripped z = Bay.new sizes from if_neg (by rw [e1]; decide), e1] at T0
    refine T0.mono ?_
    rintro e w5 ⟨rfl, T⟩
    obtain ⟨G1, H1⟩ := H.out.act 0 rfl T.out
    replace H : Hid (Side w w5 [BayT b (Bay.new sizes) G1, BayT a (Bay.new sizes) F]) := H1
    clear T T0 H1 e1
    go_wp2_with fail
    have T0 := bdark_any b G1 _ w5 (H.out.get 0 rfl)
    rw [show (Bay.new sizes).dark = false from rfl] at T0
    refine T0.mono ?_
    rintro e w6 ⟨rfl, qd, hw⟩
    have CW : Hid (Chg [] w w6) := by rw [hw]; exact H.out.chg.drewN _
    clear hw T0 H
    go_wp2_with fail
    go_ret
    exact ⟨rfl, CW.out⟩
  have hzn2 : ¬ z < 0 := hzn
  obtain ⟨n, rfl⟩ := Int.eq_ofNat_of_zero_le (show 0 ≤ z by omega)
  have hn0 : (0 : Int) ≤ n := Int.natCast_nonneg _
  have T0 := btrip_any b G _ w4 (H.out.get 0 rfl) (n : Int) HZ.out
  have TN := Bay.Twin.new sizes n
  rw [TN.2] at T0
  refine T0.mono ?_
  rintro e w5 ⟨rfl, T⟩
  obtain ⟨G1, H1⟩ := H.out.act 0 rfl T.out
  have LB : Hid (Bay.Low 0 ((Bay.new sizes).tripped n)) := (Bay.new_low sizes).tripped n
  have TW := Lib.hid TN.1
  obtain ⟨yb0, hyb⟩ : ∃ y, y = (Bay.new sizes).tripped n := ⟨_, rfl⟩
  rw [← hyb] at LB TW
  replace H : Hid (Side w w5 [BayT b yb0 G1, BayT a (Bay.new sizes) F]) := by rw [hyb]; exact H1
  clear T T0 H1 hzn hzn2 TN hyb
  have SL : Hid ((Bay.new sizes).slots.length = sizes.length) := (by simp [Bay.new] : (Bay.new sizes).slots.length = sizes.length)
  go_wp2_with fail
  go_loopw [14, 15] (fun dk i wr => ∃ (j : Nat) (ya yb : Bay) (dark : Bool) (F G : List Nat), j ≤ es.length ∧ dk = .bool dark ∧ i = .int .i64 (j : Int) ∧ Hid (Bay.Twin n ya yb dark) ∧ Hid (ya.slots.length = sizes.length) ∧ Hid (Bay.Low j ya) ∧ Hid (Bay.Low j yb) ∧ Hid (Side w wr [BayT b yb G, BayT a ya F])) (fun _ i _ => es.length - (intOf i).toNat)
  case atStart => exact ⟨0, _, yb0, false, F, G1, Nat.zero_le _, rfl, rfl, TW, SL, Bay.new_low sizes, LB, H⟩
  case round =>
    obtain ⟨j, ya, yb, dark, F2, G2, hj, rfl, rfl, TT, SA, LA, LB2, HH⟩ := hrel
    clear H TW LB SL
    have H := HH
    clear HH
    have hj0 : (0 : Int) ≤ j := Int.natCast_nonneg _
    by_cases hlt : j < es.length
    · have hj1 : (j : Int) < es.length := by omega
      obtain ⟨a0, ha⟩ : ∃ a, es[j]? = some a := ⟨_, List.getElem?_eq_getElem hlt⟩
      obtain ⟨b2, o2, rfl, hb2, RI⟩ := HV.out.at ha
      have CC : Hid (∀ w', Chg [] w w' → BOpIn w' b2 (o2 + j * 5) a0) := fun w' c => RI.chg hb2 c
      have DO : Hid (a0.data ≠ [] → ∀ k, a0.dataV.ownBlock = some k → k < w.heap.size) := fun hx => RI.s3.old hx
      have KO : Hid (a0.keeps ≠ [] → ∀ k, a0.keepsV.ownBlock = some k → k < w.heap.size) := fun hx => RI.s4.old hx
      have KE : Hid (∀ d ∈ a0.keeps, d.bs ≠ [] → ∀ k, d.v.ownBlock = some k → k < w.heap.size) := RI.s4.olds
      have hK : Hid (I64 a0.kind) := RI.r0
      have hP : Hid (I64 a0.pos) := RI.r1
      have hN : Hid (I64 a0.num) := RI.r2
      have hg : Hid (a0.data.length ≤ 140737488355328) := RI.g3
      have hby := Lib.hid RI.y3
      have hcap : Hid (∀ ao n c, a0.dataV = .slice ao n c → n ≤ c) := RI.p3
      obtain ⟨K, P, N, dv, xs, kv, ks⟩ := a0
      obtain ⟨x3, y3, rfl⟩ : ∃ x3 y3, dv = .slice x3 xs.length y3 := RI.s3.slice
      obtain ⟨x4, y4, rfl⟩ : ∃ x4 y4, kv = .slice x4 ks.length y4 := RI.s4.slice
      have Q0 := CC.out _ H.out.chg
      have k0 := Q0.c0
      have k1 := Q0.c1
      have k2 := Q0.c2
      have k3 := Q0.c3
      have k4 := Q0.c4
      dsimp only at k0 k1 k2 k3 k4 DO KO KE hK hP hN hg hby hcap
      have DV : Hid (∀ w', Chg [] w w' → Sl w' (.slice x3 xs.length y3) xs) := fun w' c => (CC.out w' c).s3
      have KV : Hid (∀ w', Chg [] w w' → BRs w' (.slice x4 ks.length y4) ks) := fun w' c => (CC.out w' c).s4
      clear CC RI Q0 ha
      have BX := Blk.made wr [.int .i64 K, .int .i64 P, .int .i64 N, .slice x3 xs.length y3, .slice x4 ks.length y4] 28
      have HA : Hid (Side w (wr.alloc (.cells #[.int .i64 K, .int .i64 P, .int .i64 N, .slice x3 xs.length y3, .slice x4 ks.length y4] 28)) [blkT wr.heap.size 28 [.int .i64 K, .int .i64 P, .int .i64 N, .slice x3 xs.length y3, .slice x4 ks.length y4], BayT b yb G2, BayT a ya F2]) := H.out.add ((Chg.refl _ _).alloc _) BX (fun k hk => by rw [List.mem_singleton.1 hk]; exact Nat.le_refl _)
      have c0 := BX.cell (j := 0) rfl
      have c1 := BX.cell (j := 1) rfl
      have c2 := BX.cell (j := 2) rfl
      have c3 := BX.cell (j := 3) rfl
      have c4 := BX.cell (j := 4) rfl
      clear BX
      by_cases hs1 : K < 1
      · have hs1b := hs1
        clear hK hP hN hg hby hcap DO KO KE DV KV
        clear H
        go_wp2_with fail
        exact ⟨⟨j + 1, ya, yb, dark, F2, G2, by omega, by first | rfl | go_num, by first | rfl | go_num, TT, SA, (LA.out.mono (by omega) : Bay.Low (j + 1) _), (LB2.out.mono (by omega) : Bay.Low (j + 1) _), HA.out.tail⟩, by simp [intOf]; omega⟩
      have hs1b : ¬ K < 1 := hs1
      by_cases hs2 : 3 < K
      · have hs2b := hs2
        clear hK hP hN hg hby hcap DO KO KE DV KV
        clear H
        go_wp2_with fail
        exact ⟨⟨j + 1, ya, yb, dark, F2, G2, by omega, by first | rfl | go_num, by first | rfl | go_num, TT, SA, (LA.out.mono (by omega) : Bay.Low (j + 1) _), (LB2.out.mono (by omega) : Bay.Low (j + 1) _), HA.out.tail⟩, by simp [intOf]; omega⟩
      have hs2b : ¬ 3 < K := hs2
      by_cases hs3 : P < 0
      · have hs3b := hs3
        clear hK hP hN hg hby hcap DO KO KE DV KV
        clear H
        go_wp2_with fail
        exact ⟨⟨j + 1, ya, yb, dark, F2, G2, by omega, by first | rfl | go_num, by first | rfl | go_num, TT, SA, (LA.out.mono (by omega) : Bay.Low (j + 1) _), (LB2.out.mono (by omega) : Bay.Low (j + 1) _), HA.out.tail⟩, by simp [intOf]; omega⟩
      have hs3b : ¬ P < 0 := hs3
      by_cases hs4 : (sizes.length : Int) ≤ P
      · have hs4b := hs4
        clear hK hP hN hg hby hcap DO KO KE DV KV
        clear H
        go_wp2_with fail
        exact ⟨⟨j + 1, ya, yb, dark, F2, G2, by omega, by first | rfl | go_num, by first | rfl | go_num, TT, SA, (LA.out.mono (by omega) : Bay.Low (j + 1) _), (LB2.out.mono (by omega) : Bay.Low (j + 1) _), HA.out.tail⟩, by simp [intOf]; omega⟩
      have hs4b : ¬ (sizes.length : Int) ≤ P := hs4
      have hIs : Hid (ya.is P = true) := by
        unfold Bay.is
        rw [SA.out]
        exact decide_eq_true ⟨by omega, by omega⟩
      obtain ⟨t0, ht0⟩ : ∃ t : Nat, t = yb.tot := ⟨_, rfl⟩
      have hta : Hid (ya.tot = t0) := by rw [ht0]; unfold Bay.tot; rw [TT.out.dark.2.1, TT.out.dark.2.2.1, TT.out.dark.2.2.2]; exact rfl
      replace ht0 := Lib.hid ht0
      have ht1 : (0 : Int) ≤ t0 := Int.natCast_nonneg _
      clear H
      cases dark with
      | true =>
        have WT := Lib.hid (TT.out.still hIs.out K N (nats xs))
        have T1 := bplain_any b G2 yb _ (HA.out.get 1 rfl) K P N (.slice x3 xs.length y3) (.slice x4 ks.length y4) xs hP.out hN.out (DV.out _ HA.out.chg) hby.out hg.out (fun hx => HA.out.holdOld (j := 1) rfl (DO.out hx)) (LB2.out.mono (by omega))
        obtain ⟨yb2, hyb2⟩ : ∃ y, y = yb.plain K P N (nats xs) := ⟨_, rfl⟩
        rw [WT.out.2.1, WT.out.2.2, ← hyb2] at T1
        replace T1 := Lib.hid T1
        have LB3 : Hid (Bay.Low (j + 1) yb2) := by rw [hyb2]; exact LB2.out.plain K P N (nats xs)
        rw [← hyb2] at WT
        clear hyb2
        go_wp2_with fail
        refine T1.out.mono ?_
        rintro _ w6 ⟨u6, rfl, T⟩
        obtain ⟨t6, G3, H1⟩ := HA.out.actOwn 1 rfl T.out
        clear HA T T1
        have H : Hid (Side w w6 [ownT t6 u6 ((ints []).map (Value.int .u8)), blkT wr.heap.size 28 [.int .i64 K, .int .i64 P, .int .i64 N, .slice x3 xs.length y3, .slice x4 ks.length y4], BayT b yb2 G3, BayT a ya F2]) := H1
        clear H1
        clear hK hP hN hg hby hcap DO KO KE DV KV
        clear c0 c1 c2 c3 c4
        obtain ⟨yo, yc, rfl⟩ : ∃ yo yc, u6 = .slice yo 0 yc := owns_slice (H.out.get 0 rfl : World.ownsRow _ 0 _ _ _ _ _)
        go_wp2_with fail
        have T0 := bdark_any b G3 _ w6 (H.out.get 2 rfl)
        rw [WT.out.1.dark.1] at T0
        refine T0.mono ?_
        rintro _ w8 ⟨rfl, qd, hw⟩
        have H8 := Lib.hid (H.out.quiet (w' := w8) (by rw [hw]; exact (Chg.refl [] _).drewN _))
        clear hw T0 H
        go_wp2_with fail
        exact ⟨⟨j + 1, ya, yb2, true, F2, G3, by omega, by first | rfl | go_num, by first | rfl | go_num, WT.out.1, SA, (LA.out.mono (by omega) : Bay.Low (j + 1) _), LB3, H8.out.tail.tail⟩, by simp [intOf]; omega⟩
      | false =>
        have T0 := btotal_any b G2 yb _ (HA.out.get 1 rfl) (LB2.out.mono (by omega))
        rw [← ht0.out] at T0
        go_wp2_with fail
        refine T0.mono ?_
        rintro _ w5 ⟨rfl, C⟩
        have H5 : Hid (Side w w5 [blkT wr.heap.size 28 [.int .i64 K, .int .i64 P, .int .i64 N, .slice x3 xs.length y3, .slice x4 ks.length y4], BayT b yb G2, BayT a ya F2]) := HA.out.quiet C.out
        clear T0 C HA c0 c1 c2 c3 c4
        have c0 := (H5.out.get 0 rfl : Blk _ _ _ _).cell (j := 0) rfl
        have c1 := (H5.out.get 0 rfl : Blk _ _ _ _).cell (j := 1) rfl
        have c2 := (H5.out.get 0 rfl : Blk _ _ _ _).cell (j := 2) rfl
        have c3 := (H5.out.get 0 rfl : Blk _ _ _ _).cell (j := 3) rfl
        have c4 := (H5.out.get 0 rfl : Blk _ _ _ _).cell (j := 4) rfl
        by_cases htn : t0 = n
        · have htn2 : (t0 : Int) = n := by omega
          have WT := Lib.hid (TT.out.ends (hta.out.trans htn) hIs.out K N (nats xs))
          clear htn
          have T1 := bplain_any b G2 yb _ (H5.out.get 1 rfl) K P N (.slice x3 xs.length y3) (.slice x4 ks.length y4) xs hP.out hN.out (DV.out _ H5.out.chg) hby.out hg.out (fun hx => H5.out.holdOld (j := 1) rfl (DO.out hx)) (LB2.out.mono (by omega))
          obtain ⟨yb2, hyb2⟩ : ∃ y, y = yb.plain K P N (nats xs) := ⟨_, rfl⟩
          rw [WT.out.2.1, WT.out.2.2, ← hyb2] at T1
          replace T1 := Lib.hid T1
          have LB3 : Hid (Bay.Low (j + 1) yb2) := by rw [hyb2]; exact LB2.out.plain K P N (nats xs)
          rw [← hyb2] at WT
          clear hyb2
          go_wp2_with fail
          refine T1.out.mono ?_
          rintro _ w6 ⟨u6, rfl, T⟩
          obtain ⟨t6, G3, H1⟩ := H5.out.actOwn 1 rfl T.out
          clear H5 T T1
          have H : Hid (Side w w6 [ownT t6 u6 ((ints []).map (Value.int .u8)), blkT wr.heap.size 28 [.int .i64 K, .int .i64 P, .int .i64 N, .slice x3 xs.length y3, .slice x4 ks.length y4], BayT b yb2 G3, BayT a ya F2]) := H1
          clear H1
          clear hK hP hN hg hby hcap DO KO KE DV KV
          clear c0 c1 c2 c3 c4
          obtain ⟨yo, yc, rfl⟩ : ∃ yo yc, u6 = .slice yo 0 yc := owns_slice (H.out.get 0 rfl : World.ownsRow _ 0 _ _ _ _ _)
          go_wp2_with fail
          have T0 := bdark_any b G3 _ w6 (H.out.get 2 rfl)
          rw [WT.out.1.dark.1] at T0
          refine T0.mono ?_
          rintro _ w8 ⟨rfl, qd, hw⟩
          have H8 := Lib.hid (H.out.quiet (w' := w8) (by rw [hw]; exact (Chg.refl [] _).drewN _))
          clear hw T0 H
          go_wp2_with fail
          exact ⟨⟨j + 1, ya, yb2, true, F2, G3, by omega, by first | rfl | go_num, by first | rfl | go_num, WT.out.1, SA, (LA.out.mono (by omega) : Bay.Low (j + 1) _), LB3, H8.out.tail.tail⟩, by simp [intOf]; omega⟩
        have htn2 : ¬ (t0 : Int) = n := by omega
        have hlt3 : ya.tot < n := by have := (TT.out.on rfl).1; have := hta.out; omega
        have WT := Lib.hid (TT.out.go hlt3 hIs.out K N (nats xs))
        have FV := Lib.hid (bplain_len (H5.out.get 2 rfl) K P N)
        obtain ⟨V, hV⟩ : ∃ V, V = ya.plainVal K P N := ⟨_, rfl⟩
        obtain ⟨E, hE⟩ : ∃ E, E = ya.plainErr K P N (nats xs) := ⟨_, rfl⟩
        rw [← hV, ← hE] at WT
        rw [← hV] at FV
        obtain ⟨ya2, hya2⟩ : ∃ y, y = ya.plain K P N (nats xs) := ⟨_, rfl⟩
        rw [← hya2] at WT
        have LA3 : Hid (Bay.Low (j + 1) ya2) := by rw [hya2]; exact LA.out.plain K P N (nats xs)
        have SA2 : Hid (ya2.slots.length = sizes.length) := by rw [hya2, Bay.plain_len]; exact SA.out
        replace hV := Lib.hid hV
        replace hE := Lib.hid hE
        replace hya2 := Lib.hid hya2
        clear htn hlt3
        have T1 := bplain_any b G2 yb _ (H5.out.get 1 rfl) K P N (.slice x3 xs.length y3) (.slice x4 ks.length y4) xs hP.out hN.out (DV.out _ H5.out.chg) hby.out hg.out (fun hx => H5.out.holdOld (j := 1) rfl (DO.out hx)) (LB2.out.mono (by omega))
        obtain ⟨yb2, hyb2⟩ : ∃ y, y = yb.plain K P N (nats xs) := ⟨_, rfl⟩
        rw [WT.out.2.1, WT.out.2.2, ← hyb2] at T1
        replace T1 := Lib.hid T1
        have LB3 : Hid (Bay.Low (j + 1) yb2) := by rw [hyb2]; exact LB2.out.plain K P N (nats xs)
        rw [← hyb2] at WT
        clear hyb2
        go_wp2_with fail
        refine T1.out.mono ?_
        rintro _ w6 ⟨u6, rfl, T⟩
        obtain ⟨t6, G3, H1⟩ := H5.out.actOwn 1 rfl T.out
        clear H5 T T1
        have H : Hid (Side w w6 [ownT t6 u6 ((ints V).map (Value.int .u8)), blkT wr.heap.size 28 [.int .i64 K, .int .i64 P, .int .i64 N, .slice x3 xs.length y3, .slice x4 ks.length y4], BayT b yb2 G3, BayT a ya F2]) := H1
        clear H1
        clear c0 c1 c2 c3 c4
        have c0 := (H.out.get 1 rfl : Blk _ _ _ _).cell (j := 0) rfl
        have c1 := (H.out.get 1 rfl : Blk _ _ _ _).cell (j := 1) rfl
        have c2 := (H.out.get 1 rfl : Blk _ _ _ _).cell (j := 2) rfl
        have c3 := (H.out.get 1 rfl : Blk _ _ _ _).cell (j := 3) rfl
        have c4 := (H.out.get 1 rfl : Blk _ _ _ _).cell (j := 4) rfl
        have T2 := bplain_any a F2 ya _ (H.out.get 3 rfl) K P N (.slice x3 xs.length y3) (.slice x4 ks.length y4) xs hP.out hN.out (DV.out _ H.out.chg) hby.out hg.out (fun hx => H.out.holdOld (j := 3) rfl (DO.out hx)) (LA.out.mono (by omega))
        rw [← hV.out, ← hE.out, ← hya2.out] at T2
        replace T2 := Lib.hid T2
        clear hK hP hN hg hby hcap DO KO KE DV KV
        go_wp2_with fail
        refine T2.out.mono ?_
        rintro _ w7 ⟨u7, rfl, T⟩
        obtain ⟨t7, F3, H1⟩ := H.out.actOwn 3 rfl T.out
        clear H T T2 c0 c1 c2 c3 c4
        have H : Hid (Side w w7 [ownT t7 u7 ((ints V).map (Value.int .u8)), ownT t6 u6 ((ints V).map (Value.int .u8)), blkT wr.heap.size 28 [.int .i64 K, .int .i64 P, .int .i64 N, .slice x3 xs.length y3, .slice x4 ks.length y4], BayT b yb2 G3, BayT a ya2 F3]) := H1
        clear H1
        go_wp2_with fail
        refine (same_true _ _ (ints V) _ (ownT_slB (H.out.get 1 rfl)) (ownT_slB (H.out.get 0 rfl)) (by have := FV.out; rw [ints_length]; omega)).mono ?_
        rintro _ w8 ⟨rfl, qd, hw⟩
        have H8 := Lib.hid (H.out.quiet (w' := w8) (by rw [hw]; exact (Chg.refl [] _).drewN _))
        clear hw H
        go_wp2_with fail
        exact ⟨⟨j + 1, ya2, yb2, false, F3, G3, by omega, by first | rfl | go_num, by first | rfl | go_num, WT.out.1, SA2, LA3, LB3, H8.out.tail.tail.tail⟩, by simp [intOf]; omega⟩
    · obtain rfl : j = es.length := by omega
      clear hlt hj hj0 LA LB2
      have KO : Hid (kks ≠ [] → ∀ k, (Value.slice kko kks.length kkc).ownBlock = some k → k < w.heap.size) := HKK.out.old
      have KE : Hid (∀ d ∈ kks, d.bs ≠ [] → ∀ k, d.v.ownBlock = some k → k < w.heap.size) := HKK.out.olds
      obtain ⟨e1, e2, e3, e4⟩ := TT.out.dark
      have e5 : dark = true → yb.tripErr 3 = 50 ∧ yb.tripped 3 = yb := fun hd => by
        have h1 : yb.tripErr 3 = 50 := by
          unfold Bay.tripErr
          rw [e1, hd]
          rfl
        exact ⟨h1, by unfold Bay.tripped; rw [if_neg (by rw [h1]; decide)]⟩
      replace e5 := Lib.hid e5
      have T0 := bdark_any b G2 yb wr (H.out.get 0 rfl)
      rw [e1] at T0
      go_wp2_with fail
      refine T0.mono ?_
      rintro e w5 ⟨rfl, qd, hw⟩
      have H5 := Lib.hid (H.out.quiet (w' := w5) (by rw [hw]; exact (Chg.refl [] _).drewN _))
      clear H hw T0
      have C1 := bcounts_any a F2 ya w5 (H5.out.get 1 rfl)
      have C2 : ∀ w6, Hid (Chg [] w5 w6) → Calls Try.prog 27 #[.pointer (some ⟨b, 0, none⟩)] w6 fun e w' => e = .returned (.agg #[.int .i64 (ya.reads : Int), .int .i64 (ya.writes : Int), .int .i64 (ya.flushes : Int)]) ∧ Hid (Chg [] w6 w') := fun w6 c => by
        have h9 := bcounts_any b G2 yb w6 ((H5.out.quiet c.out).get 0 rfl)
        rw [← e2, ← e3, ← e4] at h9
        exact h9
      replace C2 := Lib.hid C2
      have CE := Lib.hid (TT.out.cut (kks.map (·.bs)))
      generalize (ya.reads : Int) = n1 at *
      generalize (ya.writes : Int) = n2 at *
      generalize (ya.flushes : Int) = n3 at *
      clear e1 e2 e3 e4 TT
      cases dark with
      | true =>
        go_wp2_with fail
        refine C1.mono ?_
        rintro e w6 ⟨rfl, C⟩
        have D1 := C2.out w6 C
        have H6 := Lib.hid (H5.out.quiet C.out)
        clear C1 C2 H5 C
        go_wp2_with fail
        refine D1.mono ?_
        rintro e w7 ⟨rfl, C⟩
        have H7 := Lib.hid (H6.out.quiet C.out)
        clear D1 H6 C
        have T0 := btrip_any b G2 yb w7 (H7.out.get 0 rfl) 3 (by unfold I64; decide)
        rw [(e5.out (by first | exact rfl | trivial)).1, (e5.out (by first | exact rfl | trivial)).2] at T0
        go_wp2_with fail
        refine T0.mono ?_
        rintro e w8 ⟨rfl, T⟩
        obtain ⟨G3, H1⟩ := H7.out.act 0 rfl T.out
        have H : Hid (Side w w8 [BayT b yb G3, BayT a ya F2]) := H1
        clear T T0 H1 H7
        clear e5
        have T0 := bcut_any a F2 ya w8 (H.out.get 1 rfl) (.slice kko kks.length kkc) kks (HKK.out.chgNil H.out.chg) (fun hx => H.out.holdOld (j := 1) rfl (KO.out hx)) (fun d hd hn => H.out.holdOld (j := 1) rfl (KE.out d hd hn))
        obtain ⟨yc, hyc⟩ : ∃ yc, yc = ya.cut (kks.map (·.bs)) := ⟨_, rfl⟩
        have dkc : Hid (yc.dark = false) := by rw [hyc]; exact rfl
        rw [← hyc] at T0 CE
        clear hyc
        go_wp2_with fail
        refine T0.mono ?_
        rintro e w9 ⟨rfl, T⟩
        obtain ⟨F3, H1⟩ := H.out.act 1 rfl T.out
        replace H : Hid (Side w w9 [BayT b yb G3, BayT a yc F3]) := H1
        clear T T0 H1
        have T0 := bcut_any b G3 yb w9 (H.out.get 0 rfl) (.slice kko kks.length kkc) kks (HKK.out.chgNil H.out.chg) (fun hx => H.out.holdOld (j := 0) rfl (KO.out hx)) (fun d hd hn => H.out.holdOld (j := 0) rfl (KE.out d hd hn))
        rw [← CE.out] at T0
        go_wp2_with fail
        refine T0.mono ?_
        rintro e w10 ⟨rfl, T⟩
        obtain ⟨G4, H1⟩ := H.out.act 0 rfl T.out
        replace H : Hid (Side w w10 [BayT b yc G4, BayT a yc F3]) := H1
        clear T T0 H1 CE KO KE
        go_wp2_with fail
        go_loopw [21] (fun i wr => ∃ j : Nat, j ≤ sizes.length ∧ i = .int .i64 (j : Int) ∧ Hid (Side w wr [BayT b yc G4, BayT a yc F3])) (fun i _ => sizes.length - (intOf i).toNat)
        case atStart => exact ⟨0, Nat.zero_le _, rfl, H⟩
        case round =>
          obtain ⟨j, hj, rfl, HH⟩ := hrel
          clear H
          have H := HH
          clear HH
          have hj0 : (0 : Int) ≤ j := Int.natCast_nonneg _
          by_cases hlt : j < sizes.length
          · have hj1 : (j : Int) < sizes.length := by omega
            have I64j : I64 (j : Int) := by have := HE.out.2.1; unfold I64; omega
            obtain ⟨im, him⟩ : ∃ im, im = yc.image j := ⟨_, rfl⟩
            obtain ⟨er, her⟩ : ∃ er, er = yc.there j := ⟨_, rfl⟩
            have IL : Hid (im.length ≤ 1048576) := by rw [him]; exact bimage_len (H.out.get 0 rfl) j
            replace him := Lib.hid him
            replace her := Lib.hid her
            go_wp2_with fail
            have T0 := bimage_any a F3 yc _ (H.out.get 1 rfl) (j : Int) I64j
            rw [← him.out, ← her.out] at T0
            refine T0.mono ?_
            rintro e w11 ⟨t1, u1, rfl, O, C⟩
            obtain ⟨o1, c1, rfl⟩ := owns_slice O.out
            replace H : Hid (Side w w11 [ownT t1 (.slice o1 im.length c1) ((ints im).map (Value.int .u8)), BayT b yc G4, BayT a yc F3]) := H.out.own O.out C.out
            clear O C T0
            go_wp2_with fail
            have T0 := bimage_any b G4 yc _ (H.out.get 1 rfl) (j : Int) I64j
            rw [← him.out, ← her.out] at T0
            refine T0.mono ?_
            rintro e w12 ⟨t2, u2, rfl, O, C⟩
            obtain ⟨o2, c2, rfl⟩ := owns_slice O.out
            replace H : Hid (Side w w12 [ownT t2 (.slice o2 im.length c2) ((ints im).map (Value.int .u8)), ownT t1 (.slice o1 im.length c1) ((ints im).map (Value.int .u8)), BayT b yc G4, BayT a yc F3]) := H.out.own O.out C.out
            clear O C T0
            go_wp2_with fail
            refine (same_true _ _ (ints im) _ (ownT_slB (H.out.get 1 rfl)) (ownT_slB (H.out.get 0 rfl)) (by have := IL.out; rw [ints_length]; omega)).mono ?_
            rintro _ w13 ⟨rfl, qd, hw⟩
            have H8 := Lib.hid (H.out.quiet (w' := w13) (by rw [hw]; exact (Chg.refl [] _).drewN _))
            clear hw H
            go_wp2_with fail
            exact ⟨⟨j + 1, by omega, by first | rfl | go_num, H8.out.tail.tail⟩, by simp [intOf]; omega⟩
          · obtain rfl : j = sizes.length := by omega
            go_wp2_with fail
            have T0 := bdark_any b G4 yc _ (H.out.get 0 rfl)
            rw [dkc.out] at T0
            refine T0.mono ?_
            rintro e w14 ⟨rfl, qd, hw⟩
            have CW : Hid (Chg [] w w14) := by rw [hw]; exact H.out.chg.drewN _
            clear hw T0 H
            go_wp2_with fail
            go_ret
            exact ⟨rfl, CW.out⟩
      | false =>
        go_wp2_with fail
        refine C1.mono ?_
        rintro e w6 ⟨rfl, C⟩
        have D1 := C2.out w6 C
        have H6 := Lib.hid (H5.out.quiet C.out)
        clear C1 C2 H5 C
        go_wp2_with fail
        refine D1.mono ?_
        rintro e w8 ⟨rfl, C⟩
        have H := Lib.hid (H6.out.quiet C.out)
        obtain ⟨G3, hG3⟩ : ∃ G, G = G2 := ⟨_, rfl⟩
        rw [← hG3] at H
        clear D1 H6 C hG3
        clear e5
        have T0 := bcut_any a F2 ya w8 (H.out.get 1 rfl) (.slice kko kks.length kkc) kks (HKK.out.chgNil H.out.chg) (fun hx => H.out.holdOld (j := 1) rfl (KO.out hx)) (fun d hd hn => H.out.holdOld (j := 1) rfl (KE.out d hd hn))
        obtain ⟨yc, hyc⟩ : ∃ yc, yc = ya.cut (kks.map (·.bs)) := ⟨_, rfl⟩
        have dkc : Hid (yc.dark = false) := by rw [hyc]; exact rfl
        rw [← hyc] at T0 CE
        clear hyc
        go_wp2_with fail
        refine T0.mono ?_
        rintro e w9 ⟨rfl, T⟩
        obtain ⟨F3, H1⟩ := H.out.act 1 rfl T.out
        replace H : Hid (Side w w9 [BayT b yb G3, BayT a yc F3]) := H1
        clear T T0 H1
        have T0 := bcut_any b G3 yb w9 (H.out.get 0 rfl) (.slice kko kks.length kkc) kks (HKK.out.chgNil H.out.chg) (fun hx => H.out.holdOld (j := 0) rfl (KO.out hx)) (fun d hd hn => H.out.holdOld (j := 0) rfl (KE.out d hd hn))
        rw [← CE.out] at T0
        go_wp2_with fail
        refine T0.mono ?_
        rintro e w10 ⟨rfl, T⟩
        obtain ⟨G4, H1⟩ := H.out.act 0 rfl T.out
        replace H : Hid (Side w w10 [BayT b yc G4, BayT a yc F3]) := H1
        clear T T0 H1 CE KO KE
        go_wp2_with fail
        go_loopw [21] (fun i wr => ∃ j : Nat, j ≤ sizes.length ∧ i = .int .i64 (j : Int) ∧ Hid (Side w wr [BayT b yc G4, BayT a yc F3])) (fun i _ => sizes.length - (intOf i).toNat)
        case atStart => exact ⟨0, Nat.zero_le _, rfl, H⟩
        case round =>
          obtain ⟨j, hj, rfl, HH⟩ := hrel
          clear H
          have H := HH
          clear HH
          have hj0 : (0 : Int) ≤ j := Int.natCast_nonneg _
          by_cases hlt : j < sizes.length
          · have hj1 : (j : Int) < sizes.length := by omega
            have I64j : I64 (j : Int) := by have := HE.out.2.1; unfold I64; omega
            obtain ⟨im, him⟩ : ∃ im, im = yc.image j := ⟨_, rfl⟩
            obtain ⟨er, her⟩ : ∃ er, er = yc.there j := ⟨_, rfl⟩
            have IL : Hid (im.length ≤ 1048576) := by rw [him]; exact bimage_len (H.out.get 0 rfl) j
            replace him := Lib.hid him
            replace her := Lib.hid her
            go_wp2_with fail
            have T0 := bimage_any a F3 yc _ (H.out.get 1 rfl) (j : Int) I64j
            rw [← him.out, ← her.out] at T0
            refine T0.mono ?_
            rintro e w11 ⟨t1, u1, rfl, O, C⟩
            obtain ⟨o1, c1, rfl⟩ := owns_slice O.out
            replace H : Hid (Side w w11 [ownT t1 (.slice o1 im.length c1) ((ints im).map (Value.int .u8)), BayT b yc G4, BayT a yc F3]) := H.out.own O.out C.out
            clear O C T0
            go_wp2_with fail
            have T0 := bimage_any b G4 yc _ (H.out.get 1 rfl) (j : Int) I64j
            rw [← him.out, ← her.out] at T0
            refine T0.mono ?_
            rintro e w12 ⟨t2, u2, rfl, O, C⟩
            obtain ⟨o2, c2, rfl⟩ := owns_slice O.out
            replace H : Hid (Side w w12 [ownT t2 (.slice o2 im.length c2) ((ints im).map (Value.int .u8)), ownT t1 (.slice o1 im.length c1) ((ints im).map (Value.int .u8)), BayT b yc G4, BayT a yc F3]) := H.out.own O.out C.out
            clear O C T0
            go_wp2_with fail
            refine (same_true _ _ (ints im) _ (ownT_slB (H.out.get 1 rfl)) (ownT_slB (H.out.get 0 rfl)) (by have := IL.out; rw [ints_length]; omega)).mono ?_
            rintro _ w13 ⟨rfl, qd, hw⟩
            have H8 := Lib.hid (H.out.quiet (w' := w13) (by rw [hw]; exact (Chg.refl [] _).drewN _))
            clear hw H
            go_wp2_with fail
            exact ⟨⟨j + 1, by omega, by first | rfl | go_num, H8.out.tail.tail⟩, by simp [intOf]; omega⟩
          · obtain rfl : j = sizes.length := by omega
            go_wp2_with fail
            have T0 := bdark_any b G4 yc _ (H.out.get 0 rfl)
            rw [dkc.out] at T0
            refine T0.mono ?_
            rintro e w14 ⟨rfl, qd, hw⟩
            have CW : Hid (Chg [] w w14) := by rw [hw]; exact H.out.chg.drewN _
            clear hw T0 H
            go_wp2_with fail
            go_ret
            exact ⟨rfl, CW.out⟩

end Go.Proofs.Ytljhpdgjajhgbaa
