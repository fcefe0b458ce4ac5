/-
  BayWears walked. By an AI agent.
-/
import Derived.Test.YtljhpdgjajhgbaaByDuo
import Derived.Test.YtljhpdgjajhgbaaByAway
namespace Go.Proofs.Ytljhpdgjajhgbaa
open Go.RowKit
open Bay (duo up Worn)

theorem duo_fit {w : World} {b : Nat} {e0 e1 : Dev} {r p q : Nat} {F : List Nat} (h : (BayT b (duo e0 e1 r p q) F).P w) : e0.disk.Fit ∧ e1.disk.Fit := by
  have h1 : BayIn w b F (duo e0 e1 r p q) := h
  exact ⟨(h1.fit.devs ⟨some e0, none, none⟩ (List.mem_cons_self ..) e0 (.inl rfl)).1, (h1.fit.devs ⟨some e1, none, none⟩ (List.mem_cons_of_mem _ (List.mem_cons_self ..)) e1 (.inl rfl)).1⟩

theorem Dev.val_len {e : Dev} (h : e.disk.Fit) (k n : Int) : (e.val k n).length ≤ 128 := by
  unfold Dev.val
  split
  · unfold Dk.readVal
    split
    · rename_i hc
      have hh : e.disk.has n := by
        unfold Dk.check at hc
        split at hc
        · cases hc
        · split at hc
          · assumption
          · cases hc
      rw [(Dk.now_len h (k := n.toNat) (by have := hh.1; have := hh.2; omega)).1]
      exact Nat.le_refl _
    · simp
  · simp

set_option maxHeartbeats 4000000 in
set_option maxRecDepth 100000 in
theorem bayWears_walk (sz : Int) (v : Value) (es : List BOpD) (z : Int) (w : World) (hs : I64 sz) (hv : BOps w v es) (hz : I64 z) :
    Calls Try.prog 6 #[.int .i64 sz, v, .int .i64 z] w fun e w' => e = .returned (.bool true) ∧ Chg [] w w' := by
  have HV := Lib.hid hv
  have hlen := hv.len
  obtain ⟨vo, vc, rfl⟩ := hv.slice
  have HS := Lib.hid hs
  have HZ := Lib.hid hz
  have hs1 := hs.1
  have hs2 := hs.2
  have hz1 := hz.1
  have hz2 := hz.2
  clear hv hs hz
  go_enter Try.func6, Try.ntmps6
  go_wp2_with fail
  refine (bmuch_any none 0 0 _ es w (by decide) HV.out).mono ?_
  rintro e w1 ⟨much, rfl, hmuch, q1, hw1⟩
  have C1 : Hid (Chg [] w w1) := by rw [hw1]; exact (Chg.refl [] w).drewN q1
  clear hw1
  cases much with
  | true =>
    go_wp2_with fail
    go_ret
    exact ⟨rfl, C1.out⟩
  | false =>
  have hel : es.length ≤ 100000 := by have := hmuch rfl; omega
  clear hmuch
  have IS2 : Hid (Is [sz, 2]) := by intro n hn; have := HS.out; unfold I64 at this; simp at hn; omega
  have PR := Lib.hid (Bay.newErr_pair (s := sz) (t := 2) (by decide))
  have NWs : Hid (∀ w1 : World, Calls Try.prog 11 #[.slice (some ⟨w1.heap.size, 0, none⟩) 2 2] (w1.alloc (.cells #[.int .i64 sz, .int .i64 2] 3)) (BNewed (w1.alloc (.cells #[.int .i64 sz, .int .i64 2] 3)) [sz, 2])) := fun w1 =>
    have BX := Blk.made w1 [.int .i64 sz, .int .i64 2] 3
    bnew_any (.slice (some ⟨w1.heap.size, 0, none⟩) 2 2) [sz, 2] _ (.inr ⟨_, 0, 2, rfl, BX.lt, fun j u hj => by rw [Nat.zero_add]; exact BX.cell hj⟩) IS2.out (show 2 ≤ 140737488355328 by decide)
  go_wp2_with fail
  refine (NWs.out w1).mono ?_
  rintro e w2 (⟨hno, rfl, C⟩ | ⟨hyes, a, F, rfl, D, N, C⟩)
  · have h40 := PR.out.1 hno
    have CW : Hid (Chg [] w w2) := (C1.out.alloc _).trans C.out
    rw [h40]
    clear C C1
    go_wp2_with fail
    refine (NWs.out w2).mono ?_
    rintro e w3 (⟨_, rfl, C⟩ | ⟨hyes, _⟩)
    case inr => exact absurd hyes hno
    have C3 : Hid (Chg [] w w3) := (CW.out.alloc _).trans C.out
    rw [h40]
    clear C CW hno h40 NWs PR
    go_wp2_with fail
    refine (bknown_any w3).mono ?_
    rintro e w4 ⟨rfl, C⟩
    go_wp2_with fail
    go_ret
    exact ⟨rfl, C3.out.trans C.out⟩
  have hsz := PR.out.2 hyes
  have H : Hid (Side w w2 [BayT a (Bay.new [sz, 2]) F]) := (Side.nil (C1.out.alloc _)).add C.out D.out (fun k hk => N.out k hk)
  clear C1 D N C PR
  go_wp2_with fail
  refine (NWs.out w2).mono ?_
  rintro e w3 (⟨hno, _⟩ | ⟨_, b, G, rfl, D, N, C⟩)
  · exact absurd hyes hno
  have H1 := (H.out.quiet ((Chg.refl [] w2).alloc (.cells #[.int .i64 sz, .int .i64 2] 3))).add C.out D.out (fun k hk => N.out k hk)
  clear H
  have H : Hid (Side w w3 [BayT b (Bay.new [sz, 2]) G, BayT a (Bay.new [sz, 2]) F]) := H1
  clear D N C hyes NWs H1
  go_wp2_with fail
  refine (bknown_any w3).mono ?_
  rintro e w4 ⟨rfl, C⟩
  replace H : Hid (Side w w4 [BayT b (Bay.new [sz, 2]) G, BayT a (Bay.new [sz, 2]) F]) := H.out.quiet C.out
  clear C
  by_cases hs0 : sz = 0
  · have CW : Hid (Chg [] w w4) := H.out.chg
    subst hs0
    clear H
    go_wp2_with fail
    go_ret
    exact ⟨rfl, CW.out⟩
  have hs3 : ¬ sz = 0 := hs0
  go_wp2_with fail
  obtain ⟨d0', hd0⟩ : ∃ d, d = Dk.new sz.toNat := ⟨_, rfl⟩
  obtain ⟨d1', hd1⟩ : ∃ d, d = Dk.new (2 : Int).toNat := ⟨_, rfl⟩
  have hb0 : Hid (d0'.bad = false) := by rw [hd0]; rfl
  have hb1 : Hid (d1'.bad = false) := by rw [hd1]; rfl
  have LW : Hid (Bay.Low 0 (duo ⟨d0', none⟩ ⟨d1', none⟩ 0 0 0)) := by
    have := Bay.new_low [sz, 2]
    rw [Bay.new_duo (by omega) (by decide), ← hd0, ← hd1] at this
    exact this
  rw [Bay.new_duo (by omega) (by decide), ← hd0, ← hd1] at H
  clear hd0 hd1
  by_cases hzn : z < 0
  · have hzn2 := hzn
    have T0 := bwear_any b G _ w4 (H.out.get 0 rfl) 0 z (by unfold I64; decide) HZ.out
    rw [show (duo ⟨d0', none⟩ ⟨d1', none⟩ 0 0 0).wear 0 z = duo ⟨d0', none⟩ ⟨d1', none⟩ 0 0 0 from if_pos hzn, show (duo ⟨d0', none⟩ ⟨d1', none⟩ 0 0 0).wearErr 0 z = 1 from if_pos hzn] at T0
    refine T0.mono ?_
    rintro e w5 ⟨rfl, T⟩
    obtain ⟨G1, H1⟩ := H.out.act 0 rfl T.out
    replace H : Hid (Side w w5 [BayT b (duo ⟨d0', none⟩ ⟨d1', none⟩ 0 0 0) G1, BayT a (duo ⟨d0', none⟩ ⟨d1', none⟩ 0 0 0) F]) := H1
    clear T T0 H1
    go_wp2_with fail
    have T0 := bhas_any b G1 _ w5 (H.out.get 0 rfl) 0 (by unfold I64; decide)
    rw [(Bay.duo_has _ _ _ _ _).1, hb0.out] at T0
    refine T0.mono ?_
    rintro e w6 ⟨rfl, qd, hw⟩
    have CW : Hid (Chg [] w w6) := by rw [hw]; exact H.out.chg.drewN _
    clear hw T0 H
    go_wp2_with fail
    go_ret
    exact ⟨rfl, CW.out⟩
  have hzn2 : ¬ z < 0 := hzn
  obtain ⟨n, rfl⟩ := Int.eq_ofNat_of_zero_le (show 0 ≤ z by omega)
  have hn0 : (0 : Int) ≤ n := Int.natCast_nonneg _
  have T0 := bwear_any b G _ w4 (H.out.get 0 rfl) 0 (n : Int) (by unfold I64; decide) HZ.out
  rw [(Bay.duo_wear _ _ _ _ _ hn0).1, (Bay.duo_wear _ _ _ _ _ hn0).2, Int.toNat_natCast] at T0
  refine T0.mono ?_
  rintro e w5 ⟨rfl, T⟩
  obtain ⟨G1, H1⟩ := H.out.act 0 rfl T.out
  replace H : Hid (Side w w5 [BayT b (duo ⟨d0', some n⟩ ⟨d1', none⟩ 0 0 0) G1, BayT a (duo ⟨d0', none⟩ ⟨d1', none⟩ 0 0 0) F]) := H1
  have WO : Hid (Worn n 0 d0' ⟨d0', some n⟩) := .inl ⟨Nat.zero_le _, rfl⟩
  have LB : Hid (Bay.Low 0 (duo ⟨d0', some n⟩ ⟨d1', none⟩ 0 0 0)) := by
    have := LW.out.wear 0 (n : Int)
    rw [(Bay.duo_wear _ _ _ _ _ hn0).1] at this
    exact this
  clear T T0 H1 hzn hzn2
  go_wp2_with fail
  go_loopw [12, 13] (fun mv i wr => ∃ (j k : Nat) (d0 d1 : Dk) (e : Dev) (r p q : Nat) (F G : List Nat), j ≤ es.length ∧ mv = .int .i64 (k : Int) ∧ i = .int .i64 (j : Int) ∧ k ≤ j ∧ Hid (Worn n k d0 e) ∧ Hid (d0.bad = false) ∧ Hid (d1.bad = false) ∧ Hid (Bay.Low j (duo ⟨d0, none⟩ ⟨d1, none⟩ r p q)) ∧ Hid (Bay.Low j (duo e ⟨d1, none⟩ r p q)) ∧ Hid (Side w wr [BayT b (duo e ⟨d1, none⟩ r p q) G, BayT a (duo ⟨d0, none⟩ ⟨d1, none⟩ r p q) F])) (fun _ i _ => es.length - (intOf i).toNat)
  case atStart => exact ⟨0, 0, d0', d1', _, 0, 0, 0, F, G1, Nat.zero_le _, rfl, rfl, Nat.le_refl _, WO, hb0, hb1, LW, LB, H⟩
  case round =>
    obtain ⟨j, k, d0, d1, e, r, p, q, F2, G2, hj, rfl, rfl, hkj, WK, HB0, HB1, LA2, LB2, HH⟩ := hrel
    clear H WO LB LW hb0 hb1
    have H := HH
    clear HH
    have hj0 : (0 : Int) ≤ j := Int.natCast_nonneg _
    have hkm0 : (0 : Int) ≤ k := Int.natCast_nonneg _
    have hkm1 : (k : Int) ≤ 100000 := by omega
    by_cases hlt : j < es.length
    · have hj1 : (j : Int) < es.length := by omega
      obtain ⟨a0, ha⟩ : ∃ a, es[j]? = some a := ⟨_, List.getElem?_eq_getElem hlt⟩
      obtain ⟨b2, o2, rfl, hb2, RI⟩ := HV.out.at ha
      have CC : Hid (∀ w', Chg [] w w' → BOpIn w' b2 (o2 + j * 5) a0) := fun w' c => RI.chg hb2 c
      have DO : Hid (a0.data ≠ [] → ∀ k, a0.dataV.ownBlock = some k → k < w.heap.size) := fun hx => RI.s3.old hx
      have KO : Hid (a0.keeps ≠ [] → ∀ k, a0.keepsV.ownBlock = some k → k < w.heap.size) := fun hx => RI.s4.old hx
      have KE : Hid (∀ d ∈ a0.keeps, d.bs ≠ [] → ∀ k, d.v.ownBlock = some k → k < w.heap.size) := RI.s4.olds
      have hK : Hid (I64 a0.kind) := RI.r0
      have hP : Hid (I64 a0.pos) := RI.r1
      have hN : Hid (I64 a0.num) := RI.r2
      have hg : Hid (a0.data.length ≤ 140737488355328) := RI.g3
      have hby := Lib.hid RI.y3
      have hcap : Hid (∀ ao n c, a0.dataV = .slice ao n c → n ≤ c) := RI.p3
      obtain ⟨K, P, N, dv, xs, kv, ks⟩ := a0
      obtain ⟨x3, y3, rfl⟩ : ∃ x3 y3, dv = .slice x3 xs.length y3 := RI.s3.slice
      obtain ⟨x4, y4, rfl⟩ : ∃ x4 y4, kv = .slice x4 ks.length y4 := RI.s4.slice
      have Q0 := CC.out _ H.out.chg
      have k0 := Q0.c0
      have k1 := Q0.c1
      have k2 := Q0.c2
      have k3 := Q0.c3
      have k4 := Q0.c4
      dsimp only at k0 k1 k2 k3 k4 DO KO KE hK hP hN hg hby hcap
      have DV : Hid (∀ w', Chg [] w w' → Sl w' (.slice x3 xs.length y3) xs) := fun w' c => (CC.out w' c).s3
      have KV : Hid (∀ w', Chg [] w w' → BRs w' (.slice x4 ks.length y4) ks) := fun w' c => (CC.out w' c).s4
      clear CC RI Q0 ha
      have BX := Blk.made wr [.int .i64 K, .int .i64 P, .int .i64 N, .slice x3 xs.length y3, .slice x4 ks.length y4] 28
      have HA : Hid (Side w (wr.alloc (.cells #[.int .i64 K, .int .i64 P, .int .i64 N, .slice x3 xs.length y3, .slice x4 ks.length y4] 28)) [blkT wr.heap.size 28 [.int .i64 K, .int .i64 P, .int .i64 N, .slice x3 xs.length y3, .slice x4 ks.length y4], BayT b (duo e ⟨d1, none⟩ r p q) G2, BayT a (duo ⟨d0, none⟩ ⟨d1, none⟩ r p q) F2]) := H.out.add ((Chg.refl _ _).alloc _) BX (fun k hk => by rw [List.mem_singleton.1 hk]; exact Nat.le_refl _)
      have c0 := BX.cell (j := 0) rfl
      have c1 := BX.cell (j := 1) rfl
      have c2 := BX.cell (j := 2) rfl
      have c3 := BX.cell (j := 3) rfl
      have c4 := BX.cell (j := 4) rfl
      by_cases hk1 : K < 1
      · have hk1b := hk1
        clear hK hP hN hg hby hcap DO KO KE DV KV
        have H9 := HA
        clear H
        go_wp2_with fail
        exact ⟨⟨j + 1, k, d0, d1, e, r, p, q, F2, G2, by omega, by first | rfl | go_num, by first | rfl | go_num, by omega, WK, HB0, HB1, (LA2.out.mono (by omega) : Bay.Low (j + 1) _), (LB2.out.mono (by omega) : Bay.Low (j + 1) _), H9.out.tail⟩, by simp [intOf]; omega⟩
      by_cases hk3 : 3 < K
      · have hk1b : ¬ K < 1 := hk1
        have hk3b := hk3
        clear hK hP hN hg hby hcap DO KO KE DV KV
        have H9 := HA
        clear H
        go_wp2_with fail
        exact ⟨⟨j + 1, k, d0, d1, e, r, p, q, F2, G2, by omega, by first | rfl | go_num, by first | rfl | go_num, by omega, WK, HB0, HB1, (LA2.out.mono (by omega) : Bay.Low (j + 1) _), (LB2.out.mono (by omega) : Bay.Low (j + 1) _), H9.out.tail⟩, by simp [intOf]; omega⟩
      have hk1b : ¬ K < 1 := hk1
      have hk3b : ¬ 3 < K := hk3
      have HK3 : Hid (K = 1 ∨ K = 2 ∨ K = 3) := (by omega : K = 1 ∨ K = 2 ∨ K = 3)
      have FT := Lib.hid (duo_fit (H.out.get 1 rfl))
      by_cases hp1 : P = 1
      · subst hp1
        obtain ⟨V, hV⟩ : ∃ V, V = (Dev.mk d1 none).val K N := ⟨_, rfl⟩
        obtain ⟨E, hE⟩ : ∃ E, E = (Dev.mk d1 none).err K N (nats xs) := ⟨_, rfl⟩
        obtain ⟨D1, hD⟩ : ∃ D, D = ((Dev.mk d1 none).did K N (nats xs)).disk := ⟨_, rfl⟩
        have PA : Hid ((duo ⟨d0, none⟩ ⟨d1, none⟩ r p q).plain K 1 N (nats xs) = duo ⟨d0, none⟩ ⟨D1, none⟩ (up K 1 r) (up K 2 p) (up K 3 q) ∧ (duo ⟨d0, none⟩ ⟨d1, none⟩ r p q).plainErr K 1 N (nats xs) = E ∧ (duo ⟨d0, none⟩ ⟨d1, none⟩ r p q).plainVal K 1 N = V) := by
          have h9 := Bay.duo_plain1 ⟨d0, none⟩ ⟨d1, none⟩ r p q HK3.out N (nats xs)
          rw [show (Dev.mk d1 none).step = ⟨d1, none⟩ from rfl, Dev.did_lay d1 none, ← hV, ← hE, ← hD] at h9
          exact h9
        have PB : Hid ((duo e ⟨d1, none⟩ r p q).plain K 1 N (nats xs) = duo e ⟨D1, none⟩ (up K 1 r) (up K 2 p) (up K 3 q) ∧ (duo e ⟨d1, none⟩ r p q).plainErr K 1 N (nats xs) = E ∧ (duo e ⟨d1, none⟩ r p q).plainVal K 1 N = V) := by
          have h9 := Bay.duo_plain1 e ⟨d1, none⟩ r p q HK3.out N (nats xs)
          rw [show (Dev.mk d1 none).step = ⟨d1, none⟩ from rfl, Dev.did_lay d1 none, ← hV, ← hE, ← hD] at h9
          exact h9
        have LA3 : Hid (Bay.Low (j + 1) (duo ⟨d0, none⟩ ⟨D1, none⟩ (up K 1 r) (up K 2 p) (up K 3 q))) := by rw [← PA.out.1]; exact LA2.out.plain K 1 N (nats xs)
        have LB3 : Hid (Bay.Low (j + 1) (duo e ⟨D1, none⟩ (up K 1 r) (up K 2 p) (up K 3 q))) := by rw [← PB.out.1]; exact LB2.out.plain K 1 N (nats xs)
        have HD : Hid (D1.bad = false) := by rw [hD, Dev.did_bad]; exact HB1.out
        have hVl : V.length ≤ 128 := by rw [hV]; exact Dev.val_len FT.out.2 K N
        clear hV hE hD FT
        have HB := HA
        clear HA
        have T1 := bplain_any a F2 (duo ⟨d0, none⟩ ⟨d1, none⟩ r p q) _ (HB.out.get 2 rfl) K 1 N (.slice x3 xs.length y3) (.slice x4 ks.length y4) xs (by unfold I64; decide) hN.out (DV.out _ HB.out.chg) hby.out hg.out (fun hx => HB.out.holdOld (j := 2) rfl (DO.out hx)) (LA2.out.mono (by omega))
        rw [PA.out.1, PA.out.2.1, PA.out.2.2] at T1
        replace T1 := Lib.hid T1
        clear H
        go_wp2_with fail
        refine T1.out.mono ?_
        rintro _ w5 ⟨u5, rfl, T⟩
        obtain ⟨t5, F3, H1⟩ := HB.out.actOwn 2 rfl T.out
        clear HB c0 c1 c2 c3 c4
        have H : Hid (Side w w5 [ownT t5 u5 ((ints V).map (Value.int .u8)), blkT wr.heap.size 28 [.int .i64 K, .int .i64 1, .int .i64 N, .slice x3 xs.length y3, .slice x4 ks.length y4], BayT b (duo e ⟨d1, none⟩ r p q) G2, BayT a (duo ⟨d0, none⟩ ⟨D1, none⟩ (up K 1 r) (up K 2 p) (up K 3 q)) F3]) := H1
        clear T T1 H1
        have c0 := (H.out.get 1 rfl : Blk _ _ _ _).cell (j := 0) rfl
        have c1 := (H.out.get 1 rfl : Blk _ _ _ _).cell (j := 1) rfl
        have c2 := (H.out.get 1 rfl : Blk _ _ _ _).cell (j := 2) rfl
        have c3 := (H.out.get 1 rfl : Blk _ _ _ _).cell (j := 3) rfl
        have c4 := (H.out.get 1 rfl : Blk _ _ _ _).cell (j := 4) rfl
        have T2 := bplain_any b G2 (duo e ⟨d1, none⟩ r p q) w5 (H.out.get 2 rfl) K 1 N (.slice x3 xs.length y3) (.slice x4 ks.length y4) xs (by unfold I64; decide) hN.out (DV.out _ H.out.chg) hby.out hg.out (fun hx => H.out.holdOld (j := 2) rfl (DO.out hx)) (LB2.out.mono (by omega))
        rw [PB.out.1, PB.out.2.1, PB.out.2.2] at T2
        replace T2 := Lib.hid T2
        clear hK hP hN hg hby hcap DO KO KE DV KV
        go_wp2_with fail
        refine T2.out.mono ?_
        rintro _ w6 ⟨u6, rfl, T⟩
        obtain ⟨t6, G3, H1⟩ := H.out.actOwn 2 rfl T.out
        clear H c0 c1 c2 c3 c4
        have H : Hid (Side w w6 [ownT t6 u6 ((ints V).map (Value.int .u8)), ownT t5 u5 ((ints V).map (Value.int .u8)), blkT wr.heap.size 28 [.int .i64 K, .int .i64 1, .int .i64 N, .slice x3 xs.length y3, .slice x4 ks.length y4], BayT b (duo e ⟨D1, none⟩ (up K 1 r) (up K 2 p) (up K 3 q)) G3, BayT a (duo ⟨d0, none⟩ ⟨D1, none⟩ (up K 1 r) (up K 2 p) (up K 3 q)) F3]) := H1
        clear T T2 H1
        have c0 := (H.out.get 2 rfl : Blk _ _ _ _).cell (j := 0) rfl
        have c1 := (H.out.get 2 rfl : Blk _ _ _ _).cell (j := 1) rfl
        clear PA PB LA2 LB2
        go_wp2_with fail
        refine (same_true _ _ (ints V) _ (ownT_slB (H.out.get 1 rfl)) (ownT_slB (H.out.get 0 rfl)) (by rw [ints_length]; omega)).mono ?_
        rintro _ w7 ⟨rfl, qd, hw⟩
        have H7 := Lib.hid (H.out.quiet (w' := w7) (by rw [hw]; exact (Chg.refl [] _).drewN _))
        clear hw H
        have c1 := (H7.out.get 2 rfl : Blk _ _ _ _).cell (j := 1) rfl
        go_wp2_with fail
        exact ⟨⟨j + 1, k, d0, D1, e, _, _, _, F3, G3, by omega, by first | rfl | go_num, by first | rfl | go_num, by omega, WK, HB0, HD, LA3, LB3, H7.out.tail.tail.tail⟩, by simp [intOf]; omega⟩
      have hp1b : ¬ P = 1 := hp1
      have HB : Hid (Side w (wr.alloc (.cells #[.int .i64 K, .int .i64 0, .int .i64 N, .slice x3 xs.length y3, .slice x4 ks.length y4] 28)) [blkT wr.heap.size 28 [.int .i64 K, .int .i64 0, .int .i64 N, .slice x3 xs.length y3, .slice x4 ks.length y4], BayT b (duo e ⟨d1, none⟩ r p q) G2, BayT a (duo ⟨d0, none⟩ ⟨d1, none⟩ r p q) F2]) := H.out.add ((Chg.refl _ _).alloc _) (Blk.made wr [.int .i64 K, .int .i64 0, .int .i64 N, .slice x3 xs.length y3, .slice x4 ks.length y4] 28) (fun k hk => by rw [List.mem_singleton.1 hk]; exact Nat.le_refl _)
      have fz := BX.free 1
      obtain ⟨V, hV⟩ : ∃ V, V = (Dev.mk d0 none).val K N := ⟨_, rfl⟩
      obtain ⟨E, hE⟩ : ∃ E, E = (Dev.mk d0 none).err K N (nats xs) := ⟨_, rfl⟩
      obtain ⟨D1, hD⟩ : ∃ D, D = ((Dev.mk d0 none).did K N (nats xs)).disk := ⟨_, rfl⟩
      obtain ⟨e2, he2⟩ : ∃ e2, e2 = e.step.did K N (nats xs) := ⟨_, rfl⟩
      have WS := Lib.hid (WK.out.step K N (nats xs))
      rw [← hV, ← hE, ← hD, ← he2] at WS
      have PA : Hid ((duo ⟨d0, none⟩ ⟨d1, none⟩ r p q).plain K 0 N (nats xs) = duo ⟨D1, none⟩ ⟨d1, none⟩ (up K 1 r) (up K 2 p) (up K 3 q) ∧ (duo ⟨d0, none⟩ ⟨d1, none⟩ r p q).plainErr K 0 N (nats xs) = E ∧ (duo ⟨d0, none⟩ ⟨d1, none⟩ r p q).plainVal K 0 N = V) := by
        have h9 := Bay.duo_plain0 ⟨d0, none⟩ ⟨d1, none⟩ r p q HK3.out N (nats xs)
        rw [show (Dev.mk d0 none).step = ⟨d0, none⟩ from rfl, Dev.did_lay d0 none, ← hV, ← hE, ← hD] at h9
        exact h9
      have HD : Hid (D1.bad = false) := by rw [hD, Dev.did_bad]; exact HB0.out
      have hVl : V.length ≤ 128 := by rw [hV]; exact Dev.val_len FT.out.1 K N
      have LA3 : Hid (Bay.Low (j + 1) (duo ⟨D1, none⟩ ⟨d1, none⟩ (up K 1 r) (up K 2 p) (up K 3 q))) := by rw [← PA.out.1]; exact LA2.out.plain K 0 N (nats xs)
      obtain ⟨M, hM⟩ : ∃ M : Nat, M = k + 1 := ⟨_, rfl⟩
      rw [← hM] at WS
      have hMj : M ≤ j + 1 := by omega
      have hM2 : (k : Int) + 1 = (M : Int) := by omega
      have hM3 : (M : Int) ≤ 100001 := by omega
      have hM0 : (0 : Int) ≤ M := Int.natCast_nonneg _
      clear hM
      clear hV hE hD FT HA BX
      by_cases hkn : M ≤ n
      · have hkn2 : ¬ (n : Int) < (M : Int) := by omega
        have W2 := Lib.hid (WS.out.2.1 hkn)
        clear hkn
        have PB : Hid ((duo e ⟨d1, none⟩ r p q).plain K 0 N (nats xs) = (duo e2 ⟨d1, none⟩ (up K 1 r) (up K 2 p) (up K 3 q)) ∧ (duo e ⟨d1, none⟩ r p q).plainErr K 0 N (nats xs) = E ∧ (duo e ⟨d1, none⟩ r p q).plainVal K 0 N = V) := by
          have h9 := Bay.duo_plain0 e ⟨d1, none⟩ r p q HK3.out N (nats xs)
          rw [← he2, W2.out.1, W2.out.2.1] at h9
          exact h9
        have LB3 : Hid (Bay.Low (j + 1) (duo e2 ⟨d1, none⟩ (up K 1 r) (up K 2 p) (up K 3 q))) := by rw [← PB.out.1]; exact LB2.out.plain K 0 N (nats xs)

        have BB : Hid (e2.disk.bad = false) := by rw [W2.out.2.2]; exact HB0.out
        have WN := Lib.hid WS.out.1
        clear W2 WS he2 HB0

        have T1 := bplain_any a F2 (duo ⟨d0, none⟩ ⟨d1, none⟩ r p q) _ (HB.out.get 2 rfl) K 0 N (.slice x3 xs.length y3) (.slice x4 ks.length y4) xs (by unfold I64; decide) hN.out (DV.out _ HB.out.chg) hby.out hg.out (fun hx => HB.out.holdOld (j := 2) rfl (DO.out hx)) (LA2.out.mono (by omega))
        rw [PA.out.1, PA.out.2.1, PA.out.2.2] at T1
        replace T1 := Lib.hid T1
        clear H
        go_wp2_with fail
        refine T1.out.mono ?_
        rintro _ w5 ⟨u5, rfl, T⟩
        obtain ⟨t5, F3, H1⟩ := HB.out.actOwn 2 rfl T.out
        clear HB c0 c1 c2 c3 c4
        have H : Hid (Side w w5 [ownT t5 u5 ((ints V).map (Value.int .u8)), blkT wr.heap.size 28 [.int .i64 K, .int .i64 0, .int .i64 N, .slice x3 xs.length y3, .slice x4 ks.length y4], BayT b (duo e ⟨d1, none⟩ r p q) G2, BayT a (duo ⟨D1, none⟩ ⟨d1, none⟩ (up K 1 r) (up K 2 p) (up K 3 q)) F3]) := H1
        clear T T1 H1
        have c0 := (H.out.get 1 rfl : Blk _ _ _ _).cell (j := 0) rfl
        have c1 := (H.out.get 1 rfl : Blk _ _ _ _).cell (j := 1) rfl
        have c2 := (H.out.get 1 rfl : Blk _ _ _ _).cell (j := 2) rfl
        have c3 := (H.out.get 1 rfl : Blk _ _ _ _).cell (j := 3) rfl
        have c4 := (H.out.get 1 rfl : Blk _ _ _ _).cell (j := 4) rfl
        have T2 := bplain_any b G2 (duo e ⟨d1, none⟩ r p q) w5 (H.out.get 2 rfl) K 0 N (.slice x3 xs.length y3) (.slice x4 ks.length y4) xs (by unfold I64; decide) hN.out (DV.out _ H.out.chg) hby.out hg.out (fun hx => H.out.holdOld (j := 2) rfl (DO.out hx)) (LB2.out.mono (by omega))
        rw [PB.out.1, PB.out.2.1, PB.out.2.2] at T2
        replace T2 := Lib.hid T2
        clear hK hP hN hg hby hcap DO KO KE DV KV
        go_wp2_with fail
        refine T2.out.mono ?_
        rintro _ w6 ⟨u6, rfl, T⟩
        obtain ⟨t6, G3, H1⟩ := H.out.actOwn 2 rfl T.out
        clear H c0 c1 c2 c3 c4
        have H : Hid (Side w w6 [ownT t6 u6 ((ints V).map (Value.int .u8)), ownT t5 u5 ((ints V).map (Value.int .u8)), blkT wr.heap.size 28 [.int .i64 K, .int .i64 0, .int .i64 N, .slice x3 xs.length y3, .slice x4 ks.length y4], BayT b (duo e2 ⟨d1, none⟩ (up K 1 r) (up K 2 p) (up K 3 q)) G3, BayT a (duo ⟨D1, none⟩ ⟨d1, none⟩ (up K 1 r) (up K 2 p) (up K 3 q)) F3]) := H1
        clear T T2 H1
        have c0 := (H.out.get 2 rfl : Blk _ _ _ _).cell (j := 0) rfl
        have c1 := (H.out.get 2 rfl : Blk _ _ _ _).cell (j := 1) rfl
        clear PA PB LA2 LB2
        go_wp2_with fail
        refine (same_true _ _ (ints V) _ (ownT_slB (H.out.get 1 rfl)) (ownT_slB (H.out.get 0 rfl)) (by rw [ints_length]; omega)).mono ?_
        rintro _ w7 ⟨rfl, qd, hw⟩
        have H7 := Lib.hid (H.out.quiet (w' := w7) (by rw [hw]; exact (Chg.refl [] _).drewN _))
        clear hw H
        have c1 := (H7.out.get 2 rfl : Blk _ _ _ _).cell (j := 1) rfl
        go_wp2_with fail
        have T0 := bhas_any b G3 _ w7 (H7.out.get 3 rfl) 0 (by unfold I64; decide)
        rw [(Bay.duo_has _ _ _ _ _).1, BB.out] at T0
        refine T0.mono ?_
        rintro _ w8 ⟨rfl, qd, hw⟩
        have H8 := Lib.hid (H7.out.quiet (w' := w8) (by rw [hw]; exact (Chg.refl [] _).drewN _))
        clear hw T0 H7
        go_wp2_with fail
        exact ⟨⟨j + 1, M, D1, d1, e2, _, _, _, F3, G3, by omega, by first | rfl | go_num, by first | rfl | go_num, by omega, WN, HD, HB1, LA3, LB3, H8.out.tail.tail.tail⟩, by simp [intOf]; omega⟩
      have hkn2 : (n : Int) < (M : Int) := by omega
      have W2 := Lib.hid (WS.out.2.2 (by omega))
      clear hkn
      have PB : Hid ((duo e ⟨d1, none⟩ r p q).plain K 0 N (nats xs) = (duo e2 ⟨d1, none⟩ (up K 1 r) (up K 2 p) (up K 3 q)) ∧ (duo e ⟨d1, none⟩ r p q).plainErr K 0 N (nats xs) = 2 ∧ (duo e ⟨d1, none⟩ r p q).plainVal K 0 N = []) := by
        have h9 := Bay.duo_plain0 e ⟨d1, none⟩ r p q HK3.out N (nats xs)
        rw [← he2, W2.out.1, W2.out.2.1] at h9
        exact h9
      have LB3 : Hid (Bay.Low (j + 1) (duo e2 ⟨d1, none⟩ (up K 1 r) (up K 2 p) (up K 3 q))) := by rw [← PB.out.1]; exact LB2.out.plain K 0 N (nats xs)

      have BB : Hid (e2.disk.bad = true) := W2.out.2.2
      have WN := Lib.hid WS.out.1
      clear W2 WS he2 HB0

      have T1 := bplain_any a F2 (duo ⟨d0, none⟩ ⟨d1, none⟩ r p q) _ (HB.out.get 2 rfl) K 0 N (.slice x3 xs.length y3) (.slice x4 ks.length y4) xs (by unfold I64; decide) hN.out (DV.out _ HB.out.chg) hby.out hg.out (fun hx => HB.out.holdOld (j := 2) rfl (DO.out hx)) (LA2.out.mono (by omega))
      rw [PA.out.1, PA.out.2.1, PA.out.2.2] at T1
      replace T1 := Lib.hid T1
      clear H
      go_wp2_with fail
      refine T1.out.mono ?_
      rintro _ w5 ⟨u5, rfl, T⟩
      obtain ⟨t5, F3, H1⟩ := HB.out.actOwn 2 rfl T.out
      clear HB c0 c1 c2 c3 c4
      have H : Hid (Side w w5 [ownT t5 u5 ((ints V).map (Value.int .u8)), blkT wr.heap.size 28 [.int .i64 K, .int .i64 0, .int .i64 N, .slice x3 xs.length y3, .slice x4 ks.length y4], BayT b (duo e ⟨d1, none⟩ r p q) G2, BayT a (duo ⟨D1, none⟩ ⟨d1, none⟩ (up K 1 r) (up K 2 p) (up K 3 q)) F3]) := H1
      clear T T1 H1
      have c0 := (H.out.get 1 rfl : Blk _ _ _ _).cell (j := 0) rfl
      have c1 := (H.out.get 1 rfl : Blk _ _ _ _).cell (j := 1) rfl
      have c2 := (H.out.get 1 rfl : Blk _ _ _ _).cell (j := 2) rfl
      have c3 := (H.out.get 1 rfl : Blk _ _ _ _).cell (j := 3) rfl
      have c4 := (H.out.get 1 rfl : Blk _ _ _ _).cell (j := 4) rfl
      have T2 := bplain_any b G2 (duo e ⟨d1, none⟩ r p q) w5 (H.out.get 2 rfl) K 0 N (.slice x3 xs.length y3) (.slice x4 ks.length y4) xs (by unfold I64; decide) hN.out (DV.out _ H.out.chg) hby.out hg.out (fun hx => H.out.holdOld (j := 2) rfl (DO.out hx)) (LB2.out.mono (by omega))
      rw [PB.out.1, PB.out.2.1, PB.out.2.2] at T2
      replace T2 := Lib.hid T2
      clear hK hP hN hg hby hcap DO KO KE DV KV
      go_wp2_with fail
      refine T2.out.mono ?_
      rintro _ w6 ⟨u6, rfl, T⟩
      obtain ⟨t6, G3, H1⟩ := H.out.actOwn 2 rfl T.out
      clear H c0 c1 c2 c3 c4
      have H : Hid (Side w w6 [ownT t6 u6 ((ints []).map (Value.int .u8)), ownT t5 u5 ((ints V).map (Value.int .u8)), blkT wr.heap.size 28 [.int .i64 K, .int .i64 0, .int .i64 N, .slice x3 xs.length y3, .slice x4 ks.length y4], BayT b (duo e2 ⟨d1, none⟩ (up K 1 r) (up K 2 p) (up K 3 q)) G3, BayT a (duo ⟨D1, none⟩ ⟨d1, none⟩ (up K 1 r) (up K 2 p) (up K 3 q)) F3]) := H1
      clear T T2 H1
      have c0 := (H.out.get 2 rfl : Blk _ _ _ _).cell (j := 0) rfl
      have c1 := (H.out.get 2 rfl : Blk _ _ _ _).cell (j := 1) rfl
      obtain ⟨yo, yc, rfl⟩ : ∃ yo yc, u6 = .slice yo 0 yc := owns_slice (H.out.get 0 rfl : World.ownsRow _ 0 _ _ _ _ _)
      clear PA PB LA2 LB2
      go_wp2_with fail
      have T0 := bhas_any b G3 _ w6 (H.out.get 3 rfl) 0 (by unfold I64; decide)
      rw [(Bay.duo_has _ _ _ _ _).1, BB.out] at T0
      refine T0.mono ?_
      rintro _ w8 ⟨rfl, qd, hw⟩
      have H8 := Lib.hid (H.out.quiet (w' := w8) (by rw [hw]; exact (Chg.refl [] _).drewN _))
      clear hw T0 H
      go_wp2_with fail
      exact ⟨⟨j + 1, M, D1, d1, e2, _, _, _, F3, G3, by omega, by first | rfl | go_num, by first | rfl | go_num, by omega, WN, HD, HB1, LA3, LB3, H8.out.tail.tail.tail⟩, by simp [intOf]; omega⟩
    · obtain rfl : j = es.length := by omega
      clear hlt hj hj0
      go_wp2_with fail
      have T0 := bcounts_any a F2 _ wr (H.out.get 1 rfl)
      refine T0.mono ?_
      rintro e w6 ⟨rfl, C⟩
      have H1 := Lib.hid (H.out.quiet C.out)
      clear C T0
      go_wp2_with fail
      have T0 := bcounts_any b G2 _ w6 (H1.out.get 0 rfl)
      refine T0.mono ?_
      rintro e w7 ⟨rfl, C⟩
      have H2 := Lib.hid (H1.out.quiet C.out)
      clear C T0
      simp only [duo]
      go_wp2_with fail
      have T0 := bhas_any b G2 _ w7 (H2.out.get 0 rfl) 1 (by unfold I64; decide)
      rw [(Bay.duo_has _ _ _ _ _).2, HB1.out] at T0
      refine T0.mono ?_
      rintro e w8 ⟨rfl, qd, hw⟩
      have CW : Hid (Chg [] w w8) := by rw [hw]; exact H2.out.chg.drewN _
      clear hw T0 H H1 H2
      go_wp2_with fail
      go_ret
      exact ⟨rfl, CW.out⟩

end Go.Proofs.Ytljhpdgjajhgbaa
