/-
  BayTwo walked. By an AI agent.
-/
import Derived.Test.YtljhpdgjajhgbaaBySolo
import Derived.Test.YtljhpdgjajhgbaaByKnown
import Derived.Test.YtljhpdgjajhgbaaByMuch
namespace Go.Proofs.Ytljhpdgjajhgbaa
open Go.RowKit

namespace Bay

theorem newErr_cases (sizes : List Int) : (Bay.newErr sizes = 0 ∧ 1 ≤ sizes.length ∧ sizes.length ≤ 17 ∧ ∀ n ∈ sizes, 0 ≤ n ∧ n ≤ 8192) ∨ Bay.newErr sizes = 1 ∨ Bay.newErr sizes = 40 := by
  unfold Bay.newErr
  split
  · exact .inr (.inl rfl)
  · split
    · exact .inr (.inr rfl)
    · rename_i h1 h2
      refine .inl ⟨rfl, by omega, by omega, fun n hn => ?_⟩
      rw [Bool.not_eq_true, List.any_eq_false] at h2
      have := h2 n hn
      simp at this
      omega

/-- A slot of a new bay. -/
theorem new_at {sizes : List Int} {i n : Nat} (hi : sizes[i]? = some (n : Int)) : (Bay.new sizes).is i = true ∧ (Bay.new sizes).there i = (if n = 0 then 51 else 0) ∧ (Bay.new sizes).has i = decide (0 < n) ∧ (Bay.new sizes).image i = List.replicate (128 * n) 0 ∧ (Bay.new sizes).sectors i = n := by
  obtain ⟨hl, he⟩ := List.getElem?_eq_some_iff.1 hi
  have h1 : (Bay.new sizes).is i = true := is_nat _ (by simpa [Bay.new] using hl)
  have h2 : (Bay.new sizes).dev i = if n = 0 then none else some ⟨Dk.new n, none⟩ := by
    rw [new_dev sizes i hl, he]
    unfold slotOf
    by_cases h0 : n = 0
    · subst h0
      rfl
    · rw [if_neg h0, if_neg (by omega)]
      rfl
  refine ⟨h1, ?_, ?_, ?_, ?_⟩
  · unfold there
    rw [h1, h2]
    by_cases h0 : n = 0 <;> simp [h0]
  · unfold has
    rw [h2]
    by_cases h0 : n = 0
    · simp [h0]
    · rw [if_neg h0]
      simp [Dk.new]
      omega
  · unfold image
    rw [h2]
    by_cases h0 : n = 0
    · simp [h0]
    · rw [if_neg h0]
      have hfl : ∀ m : Nat, (List.replicate m (List.replicate 128 0)).flatten = List.replicate (128 * m) (0 : Nat) := fun m => by
        rw [List.flatten_replicate_replicate, Nat.mul_comm]
      exact hfl n
  · unfold sectors
    rw [h2]
    by_cases h0 : n = 0
    · simp [h0]
    · rw [if_neg h0]
      simp [Dk.new]

end Bay

set_option maxHeartbeats 4000000 in
set_option maxRecDepth 100000 in
theorem bayTwo_walk (sv v : Value) (sizes : List Int) (es : List BOpD) (w : World) (hs : RdV w sv (sizes.map (Value.int .i64))) (hi : Is sizes) (hsl : sizes.length ≤ 140737488355328) (hv : BOps w v es) :
    Calls Try.prog 8 #[sv, v] w fun e w' => e = .returned (.bool true) ∧ Chg [] w w' := by
  have HV := Lib.hid hv
  have HS := Lib.hid hs
  have HI := Lib.hid hi
  have hlen := hv.len
  obtain ⟨vo, vc, rfl⟩ := hv.slice
  obtain ⟨so, sc, rfl⟩ := hs.slice
  rw [List.length_map] at HS ⊢
  clear hv hs hi
  have hsl0 : (0 : Int) ≤ sizes.length := Int.natCast_nonneg _
  go_enter Try.func8, Try.ntmps8
  go_wp2_with fail
  refine (bmuch_any so sizes.length sc _ es w hsl HV.out).mono ?_
  rintro e w1 ⟨much, rfl, hmuch, q1, hw1⟩
  have C1 : Hid (Chg [] w w1) := by rw [hw1]; exact (Chg.refl [] w).drewN q1
  clear hw1
  cases much with
  | true =>
    go_wp2_with fail
    go_ret
    exact ⟨rfl, C1.out⟩
  | false =>
  have hel : es.length ≤ 100000 := by have := hmuch rfl; omega
  clear hmuch
  go_wp2_with fail
  have HE := Bay.newErr_cases sizes
  refine (bnew_any _ sizes w1 (HS.out.chgNil C1.out) HI.out hsl).mono ?_
  rintro e w2 (⟨hno, rfl, C⟩ | ⟨hyes, a, F, rfl, D, N, C⟩)
  · obtain ⟨E, hE⟩ : ∃ E, E = Bay.newErr sizes := ⟨_, rfl⟩
    have hE2 : E = 1 ∨ E = 40 := by rw [hE]; rcases HE with h | h; exact absurd h.1 hno; exact h
    have C2 : Hid (Chg [] w w2) := C1.out.trans C.out
    rw [← hE]
    clear C C1 HE
    go_wp2_with fail
    refine (bnew_any _ sizes w2 (HS.out.chgNil C2.out) HI.out hsl).mono ?_
    rintro e w3 (⟨_, rfl, C⟩ | ⟨hyes, _⟩)
    case inr => exact absurd hyes hno
    have C3 : Hid (Chg [] w w3) := C2.out.trans C.out
    rw [← hE]
    clear C C2 hE hno
    go_wp2_with fail
    refine (bknown_any w3).mono ?_
    rintro e w4 ⟨rfl, C⟩
    have C4 : Hid (Chg [] w w4) := C3.out.trans C.out
    clear C C3
    rcases hE2 with rfl | rfl
    · go_wp2_with fail
      go_ret
      exact ⟨rfl, C4.out⟩
    · go_wp2_with fail
      go_ret
      exact ⟨rfl, C4.out⟩
  replace HE := Lib.hid (HE.resolve_right (by omega)).2
  have H : Hid (Side w w2 [BayT a (Bay.new sizes) F]) := (Side.nil C1.out).add C.out D.out N.out
  clear C1 D N C
  go_wp2_with fail
  refine (bnew_any _ sizes w2 (HS.out.chgNil H.out.chg) HI.out hsl).mono ?_
  rintro e w3 (⟨hno, _⟩ | ⟨_, b, G, rfl, D, N, C⟩)
  · exact absurd hyes hno
  replace H : Hid (Side w w3 [BayT b (Bay.new sizes) G, BayT a (Bay.new sizes) F]) := H.out.add C.out D.out N.out
  clear D N C hyes
  go_wp2_with fail
  refine (bknown_any w3).mono ?_
  rintro e w4 ⟨rfl, C⟩
  replace H : Hid (Side w w4 [BayT b (Bay.new sizes) G, BayT a (Bay.new sizes) F]) := H.out.quiet C.out
  clear C
  go_wp2_with fail
  go_loopw [9] (fun i wr => ∃ (j : Nat) (y : Bay) (F : List Nat), j ≤ es.length ∧ i = .int .i64 (j : Int) ∧ Hid (Bay.Low j y) ∧ Hid (Side w wr [BayT b (Bay.new sizes) G, BayT a y F])) (fun i _ => es.length - (intOf i).toNat)
  case atStart => exact ⟨0, _, F, Nat.zero_le _, rfl, Bay.new_low sizes, H⟩
  case round =>
    obtain ⟨j, y, F2, hj, rfl, LL, HH⟩ := hrel
    clear H
    have H := HH
    clear HH
    have hj0 : (0 : Int) ≤ j := Int.natCast_nonneg _
    by_cases hlt : j < es.length
    · have hj1 : (j : Int) < es.length := by omega
      have LO : Hid (Bay.Low 1000000000 y) := LL.out.mono (by omega)
      obtain ⟨a0, ha⟩ : ∃ a, es[j]? = some a := ⟨_, List.getElem?_eq_getElem hlt⟩
      obtain ⟨b2, o2, rfl, hb2, RI⟩ := HV.out.at ha
      have CC : Hid (∀ w', Chg [] w w' → BOpIn w' b2 (o2 + j * 5) a0) := fun w' c => RI.chg hb2 c
      have DO : Hid (a0.data ≠ [] → ∀ k, a0.dataV.ownBlock = some k → k < w.heap.size) := fun hx => RI.s3.old hx
      have KO : Hid (a0.keeps ≠ [] → ∀ k, a0.keepsV.ownBlock = some k → k < w.heap.size) := fun hx => RI.s4.old hx
      have KE : Hid (∀ d ∈ a0.keeps, d.bs ≠ [] → ∀ k, d.v.ownBlock = some k → k < w.heap.size) := RI.s4.olds
      have hK : Hid (I64 a0.kind) := RI.r0
      have hP : Hid (I64 a0.pos) := RI.r1
      have hN : Hid (I64 a0.num) := RI.r2
      have hg : Hid (a0.data.length ≤ 140737488355328) := RI.g3
      have hby := Lib.hid RI.y3
      have hcap : Hid (∀ ao n c, a0.dataV = .slice ao n c → n ≤ c) := RI.p3
      obtain ⟨K, P, N, dv, xs, kv, ks⟩ := a0
      obtain ⟨x3, y3, rfl⟩ : ∃ x3 y3, dv = .slice x3 xs.length y3 := RI.s3.slice
      obtain ⟨x4, y4, rfl⟩ : ∃ x4 y4, kv = .slice x4 ks.length y4 := RI.s4.slice
      have Q0 := CC.out _ H.out.chg
      have k0 := Q0.c0
      have k1 := Q0.c1
      have k2 := Q0.c2
      have k3 := Q0.c3
      have k4 := Q0.c4
      dsimp only at k0 k1 k2 k3 k4 DO KO KE hK hP hN hg hby hcap
      have DV : Hid (∀ w', Chg [] w w' → Sl w' (.slice x3 xs.length y3) xs) := fun w' c => (CC.out w' c).s3
      have KV : Hid (∀ w', Chg [] w w' → BRs w' (.slice x4 ks.length y4) ks) := fun w' c => (CC.out w' c).s4
      clear CC RI Q0 ha
      have BX := Blk.made wr [.int .i64 K, .int .i64 P, .int .i64 N, .slice x3 xs.length y3, .slice x4 ks.length y4] 28
      have HA := Lib.hid (H.out.quiet ((Chg.refl [] wr).alloc (.cells #[.int .i64 K, .int .i64 P, .int .i64 N, .slice x3 xs.length y3, .slice x4 ks.length y4] 28)))
      have c0 := BX.cell (j := 0) rfl
      have c1 := BX.cell (j := 1) rfl
      have c2 := BX.cell (j := 2) rfl
      have c3 := BX.cell (j := 3) rfl
      have c4 := BX.cell (j := 4) rfl
      clear BX
      by_cases hpl : K = 1 ∨ K = 2 ∨ K = 3
      · have T1 := Lib.hid (bplain_any a F2 y _ (HA.out.get 1 rfl) K P N (.slice x3 xs.length y3) (.slice x4 ks.length y4) xs hP.out hN.out (DV.out _ HA.out.chg) hby.out hg.out (fun hx => HA.out.holdOld (j := 1) rfl (DO.out hx)) LO.out)
        have LP : Hid (Bay.Low (j + 1) (y.plain K P N (nats xs))) := LL.out.plain K P N (nats xs)
        clear hK hP hN hg hby hcap DO KO KE DV KV
        rcases hpl with rfl | rfl | rfl
        · go_wp2_with fail
          refine T1.out.mono ?_
          rintro e w5 ⟨u, rfl, T⟩
          obtain ⟨t5, F3, H1⟩ := HA.out.actOwn 1 rfl T.out
          clear H
          have H : Hid (Side w w5 [BayT b (Bay.new sizes) G, BayT a (y.plain 1 P N (nats xs)) F3]) := H1.tail
          clear T T1 H1 HA
          go_wp2_with fail
          exact ⟨⟨j + 1, _, F3, by omega, by go_num, LP, H⟩, by simp [intOf]; omega⟩
        · go_wp2_with fail
          refine T1.out.mono ?_
          rintro e w5 ⟨u, rfl, T⟩
          obtain ⟨t5, F3, H1⟩ := HA.out.actOwn 1 rfl T.out
          clear H
          have H : Hid (Side w w5 [BayT b (Bay.new sizes) G, BayT a (y.plain 2 P N (nats xs)) F3]) := H1.tail
          clear T T1 H1 HA
          go_wp2_with fail
          exact ⟨⟨j + 1, _, F3, by omega, by go_num, LP, H⟩, by simp [intOf]; omega⟩
        · go_wp2_with fail
          refine T1.out.mono ?_
          rintro e w5 ⟨u, rfl, T⟩
          obtain ⟨t5, F3, H1⟩ := HA.out.actOwn 1 rfl T.out
          clear H
          have H : Hid (Side w w5 [BayT b (Bay.new sizes) G, BayT a (y.plain 3 P N (nats xs)) F3]) := H1.tail
          clear T T1 H1 HA
          go_wp2_with fail
          exact ⟨⟨j + 1, _, F3, by omega, by go_num, LP, H⟩, by simp [intOf]; omega⟩
      obtain ⟨n1, n2, n3⟩ : ¬ K = 1 ∧ ¬ K = 2 ∧ ¬ K = 3 := by omega
      clear hpl
      by_cases hk4 : K = 4
      · subst hk4
        have T0 := Lib.hid (bfail_any a F2 y _ (HA.out.get 1 rfl) P hP.out)
        clear hK hP hN hg hby hcap DO KO KE DV KV
        go_wp2_with fail
        refine T0.out.mono ?_
        rintro e w5 ⟨rfl, T⟩
        obtain ⟨F3, H1⟩ := HA.out.act 1 rfl T.out
        clear H
        have H : Hid (Side w w5 [BayT b (Bay.new sizes) G, BayT a (y.fail P) F3]) := H1
        clear T T0 H1 HA
        go_wp2_with fail
        exact ⟨⟨j + 1, _, F3, by omega, by go_num, (show Bay.Low (j + 1) _ from (LL.out.fail P).mono (by omega)), H⟩, by simp [intOf]; omega⟩
      by_cases hk8 : K = 8
      · subst hk8
        have T0 := Lib.hid (bpull_any a F2 y _ (HA.out.get 1 rfl) P hP.out)
        clear hK hP hN hg hby hcap DO KO KE DV KV
        go_wp2_with fail
        refine T0.out.mono ?_
        rintro e w5 ⟨rfl, T⟩
        obtain ⟨F3, H1⟩ := HA.out.act 1 rfl T.out
        clear H
        have H : Hid (Side w w5 [BayT b (Bay.new sizes) G, BayT a (y.pull P) F3]) := H1
        clear T T0 H1 HA
        go_wp2_with fail
        exact ⟨⟨j + 1, _, F3, by omega, by go_num, (show Bay.Low (j + 1) _ from (LL.out.pull P).mono (by omega)), H⟩, by simp [intOf]; omega⟩
      by_cases hk10 : K = 10
      · subst hk10
        have T0 := Lib.hid (btrip_any a F2 y _ (HA.out.get 1 rfl) N hN.out)
        clear hK hP hN hg hby hcap DO KO KE DV KV
        go_wp2_with fail
        refine T0.out.mono ?_
        rintro e w5 ⟨rfl, T⟩
        obtain ⟨F3, H1⟩ := HA.out.act 1 rfl T.out
        clear H
        have H : Hid (Side w w5 [BayT b (Bay.new sizes) G, BayT a (y.tripped N) F3]) := H1
        clear T T0 H1 HA
        go_wp2_with fail
        exact ⟨⟨j + 1, _, F3, by omega, by go_num, (show Bay.Low (j + 1) _ from (LL.out.tripped N).mono (by omega)), H⟩, by simp [intOf]; omega⟩
      by_cases hk11 : K = 11
      · subst hk11
        have FC : Hid (∀ x ∈ y.slots, ∀ d, x.aside = some d ∨ x.coming = some d → d.disk.cache = []) := ((H.out.get 1 rfl : BayIn _ _ _ _).fit.clean)
        have T0 := Lib.hid (bcut_any a F2 y _ (HA.out.get 1 rfl) (.slice x4 ks.length y4) ks (KV.out _ HA.out.chg) (fun hx => HA.out.holdOld (j := 1) rfl (KO.out hx)) (fun d hd hn => HA.out.holdOld (j := 1) rfl (KE.out d hd hn)))
        clear hK hP hN hg hby hcap DO KO KE DV KV
        go_wp2_with fail
        refine T0.out.mono ?_
        rintro e w5 ⟨rfl, T⟩
        obtain ⟨F3, H1⟩ := HA.out.act 1 rfl T.out
        clear H
        have H : Hid (Side w w5 [BayT b (Bay.new sizes) G, BayT a (y.cut (ks.map (·.bs))) F3]) := H1
        clear T T0 H1 HA
        go_wp2_with fail
        exact ⟨⟨j + 1, _, F3, by omega, by go_num, (show Bay.Low (j + 1) _ from (LL.out.cut FC.out _).mono (by omega)), H⟩, by simp [intOf]; omega⟩
      clear hK hP hN hg hby hcap DO KO KE DV KV
      clear H
      have H := HA
      clear HA
      go_wp2_with fail
      exact ⟨⟨j + 1, y, F2, by omega, by go_num, (show Bay.Low (j + 1) _ from LL.out.mono (by omega)), H⟩, by simp [intOf]; omega⟩
    · obtain rfl : j = es.length := by omega
      clear hlt hj hj0 LL
      go_wp2_with fail
      replace H : Hid (Side w wr [BayT b (Bay.new sizes) G]) := (H.out.front 0).sub (by simp [front])
      have T0 := bcounts_any b G _ wr (H.out.get 0 rfl)
      rw [show (Bay.new sizes).reads = 0 from rfl, show (Bay.new sizes).writes = 0 from rfl, show (Bay.new sizes).flushes = 0 from rfl] at T0
      refine T0.mono ?_
      rintro e w5 ⟨rfl, C⟩
      replace H : Hid (Side w w5 [BayT b (Bay.new sizes) G]) := H.out.quiet C.out
      clear C T0
      go_wp2_with fail
      have T0 := bdark_any b G _ w5 (H.out.get 0 rfl)
      rw [show (Bay.new sizes).dark = false from rfl] at T0
      refine T0.mono ?_
      rintro e w6 ⟨rfl, qd, hw⟩
      replace H : Hid (Side w w6 [BayT b (Bay.new sizes) G]) := H.out.quiet (by rw [hw]; exact (Chg.refl [] _).drewN _)
      clear hw T0
      go_wp2_with fail
      go_loopw [11] (fun i wr => ∃ j : Nat, j ≤ sizes.length ∧ i = .int .i64 (j : Int) ∧ Hid (Side w wr [BayT b (Bay.new sizes) G])) (fun i _ => sizes.length - (intOf i).toNat)
      case atStart => exact ⟨0, Nat.zero_le _, rfl, H⟩
      case round =>
        obtain ⟨j, hj, rfl, HH⟩ := hrel
        clear H
        have H := HH
        clear HH
        have hj0 : (0 : Int) ≤ j := Int.natCast_nonneg _
        by_cases hlt : j < sizes.length
        · have hj1 : (j : Int) < sizes.length := by omega
          obtain ⟨z, hz⟩ : ∃ z, sizes[j]? = some z := ⟨_, List.getElem?_eq_getElem hlt⟩
          have hz1 := HE.out.2.2 z (List.mem_of_getElem? hz)
          obtain ⟨n, rfl⟩ := Int.eq_ofNat_of_zero_le hz1.1
          have hn1 : (n : Int) ≤ 8192 := hz1.2
          have hn0 : (0 : Int) ≤ n := Int.natCast_nonneg _
          have NA := Lib.hid (Bay.new_at hz)
          have ZC : Hid (∀ w', Chg [] w w' → ∃ b2 o2, so = some ⟨b2, o2, none⟩ ∧ w'.cell? ⟨b2, o2 + j, none⟩ = some (.int .i64 (n : Int))) := fun w' c => (HS.out.chgNil c).at (by rw [List.getElem?_map, hz]; rfl)
          clear hz hz1
          obtain ⟨M, hM, hM2⟩ : ∃ M : Nat, M = 128 * n ∧ M ≤ 1048576 := ⟨_, rfl, by omega⟩
          replace hM := Lib.hid hM
          have hM0 : (0 : Int) ≤ M := Int.natCast_nonneg _
          have hM1 : (M : Int) ≤ 1048576 := by omega
          have I64j : I64 (j : Int) := by have := HE.out.2.1; unfold I64; omega
          go_wp2_with fail
          have T0 := bimage_any b G _ wr (H.out.get 0 rfl) (j : Int) I64j
          rw [NA.out.2.2.2.1, NA.out.2.1, ← hM.out] at T0
          refine T0.mono ?_
          rintro e w7 ⟨t7, u7, rfl, O, C⟩
          rw [List.length_replicate] at O
          rw [show (ints (List.replicate M 0)).map (Value.int .u8) = List.replicate M (Value.int .u8 0) from by simp [ints]] at O
          obtain ⟨lo, lc, rfl⟩ := owns_slice O.out
          have RL := Lib.hid (RdV.owned O.out)
          replace H : Hid (Side w w7 [BayT b (Bay.new sizes) G]) := H.out.quiet C.out
          clear O C T0
          obtain ⟨er, her, her2⟩ : ∃ er : Nat, er = (if n = 0 then 51 else 0) ∧ er ≤ 51 := ⟨_, rfl, by split <;> decide⟩
          replace her := Lib.hid her
          rw [← her.out]
          go_wp2_with fail
          go_loopw [14] (fun i wr => ∃ k : Nat, k ≤ M ∧ i = .int .i64 (k : Int) ∧ ∃ q, wr = w7.drewN q) (fun i _ => M - (intOf i).toNat)
          case atStart => exact ⟨0, Nat.zero_le _, rfl, 0, rfl⟩
          case round =>
            obtain ⟨k, hk, rfl, q, rfl⟩ := hrel
            have hk0 : (0 : Int) ≤ k := Int.natCast_nonneg _
            by_cases hlt2 : k < M
            · have hk1 : (k : Int) < M := by omega
              obtain ⟨b3, o3, rfl, hc3⟩ := (RL.out.chgNil ((Chg.refl [] w7).drewN q)).at (k := k) (u := .int .u8 0) (by simp [hlt2])
              go_wp2_with fail
              exact ⟨⟨k + 1, by omega, by go_num, _, rfl⟩, by simp [intOf]; omega⟩
            · obtain rfl : M = k := by omega
              clear hlt2 hk hk0
              replace H : Hid (Side w (w7.drewN q) [BayT b (Bay.new sizes) G]) := H.out.quiet ((Chg.refl [] w7).drewN q)
              clear RL
              generalize w7.drewN q = w8 at *
              obtain ⟨b2, o2, rfl, cz⟩ := ZC.out _ H.out.chg
              have s1 : Hid (∀ m, Calls Try.prog 31 #[.pointer (some ⟨b, 0, none⟩), .int .i64 (j : Int)] (w8.drewN m) fun e w' => e = .returned (.bool ((Bay.new sizes).has (j : Int))) ∧ ∃ q2, w' = (w8.drewN m).drewN q2) := fun m => bhas_any b G _ _ ((H.out.quiet ((Chg.refl [] _).drewN m)).get 0 rfl) (j : Int) I64j
              rw [NA.out.2.2.1] at s1
              go_wp2_with fail
              by_cases hnz : n = 0
              · obtain rfl : er = 51 := by rw [her.out, if_pos hnz]
                subst hnz
                obtain rfl : M = 0 := by have := hM.out; omega
                rw [show decide (0 < 0) = false from rfl] at s1
                replace cz : w8.cell? ⟨b2, o2 + j, none⟩ = some (.int .i64 0) := cz
                go_quiet (first | (go_at_call 31; exact Calls.quiet_of (s1.out _)))
                replace H : Hid (Side w (w8.drewN nq) [BayT b (Bay.new sizes) G]) := H.out.quiet ((Chg.refl [] _).drewN nq)
                go_wp2_with fail
                exact ⟨⟨j + 1, by omega, by go_num, H⟩, by simp [intOf]; omega⟩
              · have hn2 : (0 : Int) < n := by omega
                have hn3 : 0 < n := by omega
                obtain rfl : er = 0 := by rw [her.out, if_neg hnz]
                rw [show decide (0 < n) = true from decide_eq_true (by omega)] at s1
                have mul1 : (128 : Int) * (n : Int) = (M : Int) := by have := hM.out; omega
                have mul2 : IntKind.i64.wrap (M : Int) = (M : Int) := by rw [IntKind.wrap_i64]; omega
                have mul3 : wrap64 (M : Int) = (M : Int) := by unfold wrap64; omega
                go_quiet (first | (go_at_call 31; exact Calls.quiet_of (s1.out _)))
                clear mul1 mul2 mul3
                replace H : Hid (Side w (w8.drewN nq) [BayT b (Bay.new sizes) G]) := H.out.quiet ((Chg.refl [] _).drewN nq)
                go_wp2_with fail
                exact ⟨⟨j + 1, by omega, by go_num, H⟩, by simp [intOf]; omega⟩
        · obtain rfl : j = sizes.length := by omega
          go_wp2_with fail
          go_ret
          exact ⟨rfl, H.out.chg⟩

end Go.Proofs.Ytljhpdgjajhgbaa
