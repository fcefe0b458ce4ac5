/-
  BayCuts walked. By an AI agent.
-/
import Derived.Test.YtljhpdgjajhgbaaByCutsMath
import Derived.Test.YtljhpdgjajhgbaaByAway
import Derived.Test.YtljhpdgjajhgbaaGSameAny
namespace Go.Proofs.Ytljhpdgjajhgbaa
open Go.RowKit

set_option maxHeartbeats 4000000 in
set_option maxRecDepth 100000 in
theorem bayCuts_walk (sz : Int) (v : Value) (es : List BOpD) (fl : Int) (kv : Value) (keep : List Bool) (mv : Value) (more : List Bool) (w : World) (hs : I64 sz) (hv : BOps w v es) (ha : I64 fl) (hk : RdV w kv (keep.map Value.bool)) (hkl : keep.length ≤ 140737488355328) (hm : RdV w mv (more.map Value.bool)) (hml : more.length ≤ 140737488355328) :
    Calls Try.prog 9 #[.int .i64 sz, v, .int .i64 fl, kv, mv] w fun e w' => e = .returned (.bool true) ∧ Chg [] w w' := by
  have HV := Lib.hid hv
  have HK := Lib.hid hk
  have HM := Lib.hid hm
  have hlen := hv.len
  obtain ⟨vo, vc, rfl⟩ := hv.slice
  obtain ⟨ko, kc, rfl⟩ := hk.slice
  obtain ⟨mo, mc, rfl⟩ := hm.slice
  rw [List.length_map] at HK HM ⊢
  rw [List.length_map]
  have HS := Lib.hid hs
  have hs1 := hs.1
  have hs2 := hs.2
  have ha1 := ha.1
  have ha2 := ha.2
  have hk0 : (0 : Int) ≤ keep.length := Int.natCast_nonneg _
  have hm0 : (0 : Int) ≤ more.length := Int.natCast_nonneg _
  clear hv hk hs ha hm
  go_enter Try.func9, Try.ntmps9
  go_wp2_with fail
  refine (bmuch_any none 0 0 _ es w (by decide) HV.out).mono ?_
  rintro e w1 ⟨much, rfl, hmuch, q1, hw1⟩
  have C1 : Hid (Chg [] w w1) := by rw [hw1]; exact (Chg.refl [] w).drewN q1
  clear hw1
  cases much with
  | true =>
    go_wp2_with fail
    go_ret
    exact ⟨rfl, C1.out⟩
  | false =>
  have hel : es.length ≤ 100000 := by have := hmuch rfl; omega
  clear hmuch
  by_cases hkb : keep.length ≤ 100000
  case neg =>
    have hkb1 : ¬ (keep.length : Int) ≤ 100000 := by omega
    go_wp2_with fail
    go_ret
    exact ⟨rfl, C1.out⟩
  have hkb1 : (keep.length : Int) ≤ 100000 := by omega
  by_cases hmb : more.length ≤ 100000
  case neg =>
    have hmb1 : ¬ (more.length : Int) ≤ 100000 := by omega
    go_wp2_with fail
    go_ret
    exact ⟨rfl, C1.out⟩
  have hmb1 : (more.length : Int) ≤ 100000 := by omega
  go_wp2_with fail
  have BX := Blk.made w1 [.int .i64 sz] 3
  have NW := Lib.hid (bnew_any (.slice (some ⟨w1.heap.size, 0, none⟩) 1 1) [sz] (w1.alloc (.cells #[.int .i64 sz] 3)) (.inr ⟨_, 0, 1, rfl, BX.lt, fun j u hj => by rw [Nat.zero_add]; exact BX.cell hj⟩) (by intro n hn; have := HS.out; unfold I64 at this; simp at hn; omega) (show 1 ≤ 140737488355328 by decide))
  clear BX
  have CA : Hid (Chg [] w (w1.alloc (.cells #[.int .i64 sz] 3))) := C1.out.alloc _
  have PR := Lib.hid (Bay.newErr_one (s := sz))
  refine NW.out.mono ?_
  rintro e w2 (⟨hno, rfl, C⟩ | ⟨hyes, b, F, rfl, D, N, C⟩)
  · have h40 := PR.out.1 hno
    have CW : Hid (Chg [] w w2) := CA.out.trans C.out
    rw [h40]
    clear NW CA C C1 PR hno h40
    go_wp2_with fail
    refine (bknown_any w2).mono ?_
    rintro e w3 ⟨rfl, C⟩
    go_wp2_with fail
    go_ret
    exact ⟨rfl, CW.out.trans C.out⟩
  have hsz := PR.out.2 hyes
  have H : Hid (Side w w2 [BayT b (Bay.new [sz]) F]) := (Side.nil CA.out).add C.out D.out (fun k hk => by have := N.out k hk; simp at this; simp; omega)
  clear NW CA D N C C1 PR hyes
  go_wp2_with fail
  refine (bknown_any w2).mono ?_
  rintro e w3 ⟨rfl, C⟩
  replace H : Hid (Side w w3 [BayT b (Bay.new [sz]) F]) := H.out.quiet C.out
  clear C
  by_cases hs0 : sz = 0
  · have CW : Hid (Chg [] w w3) := H.out.chg
    subst hs0
    go_wp2_with fail
    go_ret
    exact ⟨rfl, CW.out⟩
  have hs3 : ¬ sz = 0 := hs0
  obtain ⟨M, rfl⟩ := Int.eq_ofNat_of_zero_le hsz.1
  have hM1 : 1 ≤ M := by omega
  have hM2 : M ≤ 8192 := by omega
  have hM3 : (M : Int) ≤ 8192 := by omega
  have hM0 : (0 : Int) ≤ M := Int.natCast_nonneg _
  have hM5 : ((M : Int) == 0) = false := by rw [beq_eq_false_iff_ne]; omega
  clear hsz hs0 hs1 hs2 HS
  go_wp2_with fail
  obtain ⟨d0, hd0⟩ : ∃ d, d = Dk.new M := ⟨_, rfl⟩
  have LW : Hid (Bay.Low 0 (Bay.solo d0 [] 0 0 0)) := by
    have := Bay.new_low [(M : Int)]
    rw [Bay.new_one (by omega), Int.toNat_natCast, ← hd0] at this
    exact this
  rw [Bay.new_one (by omega), Int.toNat_natCast, ← hd0] at H
  have hb0 : Hid (d0.bad = false) := by rw [hd0]; rfl
  have hl0 : Hid (d0.last.length = M) := by rw [hd0]; show (Dk.new M).last.length = M; simp [Dk.new]
  have T0 : Hid (Told es fl 0 d0.cache) := by rw [hd0]; exact Told.nil _ _ _
  clear hd0
  go_loopw [13] (fun i wr => ∃ (j : Nat) (d : Dk) (r p q : Nat) (F : List Nat), j ≤ es.length ∧ i = .int .i64 (j : Int) ∧ Hid (d.bad = false) ∧ Hid (d.last.length = M) ∧ Hid (Told es fl j d.cache) ∧ Hid (Bay.Low (2 * j) (Bay.solo d [] r p q)) ∧ Hid (Side w wr [BayT b (Bay.solo d [] r p q) F])) (fun i _ => es.length - (intOf i).toNat)
  case atStart => exact ⟨0, d0, 0, 0, 0, F, Nat.zero_le _, rfl, hb0, hl0, T0, LW, H⟩
  case round =>
    obtain ⟨j, d, r, p, q, F2, hj, rfl, hb, hl, TD, LL, HH⟩ := hrel
    clear H hb0 hl0 T0 LW
    have H := HH
    clear HH
    have hj0 : (0 : Int) ≤ j := Int.natCast_nonneg _
    by_cases hlt : j < es.length
    · have hj1 : (j : Int) < es.length := by omega
      obtain ⟨a, ha⟩ : ∃ a, es[j]? = some a := ⟨_, List.getElem?_eq_getElem hlt⟩
      obtain ⟨b2, o2, rfl, hb2, RI⟩ := HV.out.at ha
      have CC : Hid (∀ w', Chg [] w w' → BOpIn w' b2 (o2 + j * 5) a) := fun w' c => RI.chg hb2 c
      have DO : Hid (a.data ≠ [] → ∀ k, a.dataV.ownBlock = some k → k < w.heap.size) := fun hx => RI.s3.old hx
      have kr := RI.r0
      have hg := RI.g3
      have hby := Lib.hid RI.y3
      have hpn : Hid (I64 a.num) := RI.r2
      obtain ⟨x3, y3, e3⟩ := RI.s3.slice
      have TW : Hid (¬ (j : Int) = fl → a.kind = 2 → Told es fl (j + 1) (d.write a.num (nats a.data)).cache) := fun h1 h2 => TD.out.write h1 ha h2
      have TS : Hid (¬ (j : Int) = fl → Told es fl (j + 1) d.cache) := fun h1 => TD.out.skip h1
      clear ha RI TD
      have k0 := (CC.out _ H.out.chg).c0
      by_cases hk2 : a.kind = 2
      case neg =>
        have hk3 : ¬ a.kind = 2 := hk2
        clear TW CC DO hby hpn hg e3
        by_cases hja : (j : Int) = fl
        case neg =>
          have hja2 : ¬ (j : Int) = fl := hja
          have TT := Lib.hid (TS.out hja2)
          clear TS
          go_wp2_with fail
          exact ⟨⟨j + 1, d, r, p, q, F2, by omega, by go_num, hb, hl, TT, (LL.out.mono (by omega) : Bay.Low _ _), H⟩, by simp [intOf]; omega⟩
        have hja1 : ((j : Int) == fl) = true := by rw [beq_iff_eq]; exact hja
        clear TS hja
        go_wp2_with fail
        have T0 := bflush_any b F2 _ _ (H.out.get 0 rfl) 0 (by unfold I64; decide) (LL.out.mono (by omega))
        rw [(Bay.solo_flush d [] r (p) q).1] at T0
        refine T0.mono ?_
        rintro e w6 ⟨rfl, T⟩
        obtain ⟨F4, H1⟩ := H.out.act 0 rfl T.out
        replace H : Hid (Side w w6 [BayT b (Bay.solo d.flush [] r (p) (q + 1)) F4]) := H1
        have L2 : Hid (Bay.Low (2 * (j + 1)) (Bay.solo d.flush [] r (p) (q + 1))) := by
          have h9 := LL.out.flush 0
          rw [(Bay.solo_flush d [] r (p) q).1] at h9
          exact h9.mono (by omega)
        have B2 : Hid (d.flush.bad = false) := by
          rw [(Dk.flush_ok hb.out).2]
          exact hb.out
        have L3 : Hid (d.flush.last.length = M) := by
          show _ = _
          rw [Dk.flush_len]
          exact hl.out
        have T3 : Hid (Told es fl (j + 1) d.flush.cache) := by
          rw [(Dk.flush_ok hb.out).2]
          exact Told.nil _ _ _
        clear T T0 H1
        go_wp2_with fail
        exact ⟨⟨j + 1, d.flush, r, p, q + 1, F4, by omega, by go_num, B2, L3, T3, L2, H⟩, by simp [intOf]; omega⟩
      rw [hk2] at k0
      clear kr TS
      go_wp2_with fail
      have f2 := (CC.out _ H.out.chg).c2
      have f3 := (CC.out _ H.out.chg).c3
      obtain ⟨N, hN⟩ : ∃ N : Int, N = a.num := ⟨_, rfl⟩
      rw [← hN] at f2 hpn TW
      obtain ⟨dv, hdv⟩ : ∃ dv : Value, dv = a.dataV := ⟨_, rfl⟩
      obtain ⟨xs, hxs⟩ : ∃ xs, xs = a.data := ⟨_, rfl⟩
      rw [← hdv] at f3
      have QQ : Hid (∀ w', Chg [] w w' → w'.cell? ⟨b2, o2 + j * 5 + 2, none⟩ = some (.int .i64 N) ∧ w'.cell? ⟨b2, o2 + j * 5 + 3, none⟩ = some dv) := fun w' c => by rw [hN, hdv]; exact ⟨(CC.out w' c).c2, (CC.out w' c).c3⟩
      have DV : Hid (∀ w', Chg [] w w' → Sl w' dv xs) := fun w' c => by rw [hdv, hxs]; exact (CC.out w' c).s3
      rw [← hdv, ← hxs] at DO
      rw [← hxs] at hby hg TW
      have TW2 : Hid (¬ (j : Int) = fl → Told es fl (j + 1) (d.write N (nats xs)).cache) := fun h1 => TW.out h1 hk2
      clear CC e3 hN hdv hxs k0 TW hk2
      go_region_held3 (fun w' : World => w'.cell? ⟨b2, o2 + j * 5 + 2, none⟩ = some (.int .i64 N) ∧ w'.cell? ⟨b2, o2 + j * 5 + 3, none⟩ = some dv) (first | exact (QQ.out _ H2.out.chg) | exact ⟨f2, f3⟩) (first | (go_at_call 28; refine (bwrite_any b F2 _ _ ((H.out.quiet ((Chg.refl [] wr).drewN 1)).get 0 rfl) 0 N (by unfold I64; decide) hpn.out dv xs (DV.out _ (H.out.chg.trans ((Chg.refl [] wr).drewN 1))) hby.out hg (fun hx => (H.out.quiet ((Chg.refl [] wr).drewN 1)).holdOld (j := 0) rfl (DO.out hx)) (LL.out.mono (by omega))).mono ?_; rintro e w5 ⟨rfl, T⟩; obtain ⟨F3, H1⟩ := (H.out.quiet ((Chg.refl [] wr).drewN 1)).act 0 rfl T.out; have H2 : Hid (Side w w5 [BayT b ((Bay.solo d [] r p q).write 0 N (nats xs)) F3]) := H1))
      clear H f2 f3
      have H : Hid (Side w w5 [BayT b (Bay.solo (d.write N (nats xs)) [] r (p + 1) q) F3]) := by
        have h9 := H2.out
        rw [(Bay.solo_write d [] r p q N (nats xs)).1] at h9
        exact h9
      have L1 : Hid (Bay.Low (2 * j + 1) (Bay.solo (d.write N (nats xs)) [] r (p + 1) q)) := by
        have h9 := LL.out.write 0 N (nats xs)
        rw [(Bay.solo_write d [] r p q N (nats xs)).1] at h9
        exact h9
      have B1 : Hid ((d.write N (nats xs)).bad = false) := by rw [Dk.w_bad]; exact hb
      have F1 : Hid ((d.write N (nats xs)).last.length = M) := by rw [Dk.w_last]; exact hl
      obtain ⟨d1, hd1⟩ : ∃ d1, d1 = d.write N (nats xs) := ⟨_, rfl⟩
      rw [← hd1] at H L1 B1 F1 TW2
      clear hd1 H2 T LL hb hl H1 QQ DV DO hby hpn
      by_cases hja : (j : Int) = fl
      case neg =>
        have hja2 : ¬ (j : Int) = fl := hja
        have TT := Lib.hid (TW2.out hja2)
        clear TW2
        go_wp2_with fail
        exact ⟨⟨j + 1, d1, r, p + 1, q, F3, by omega, by go_num, B1, F1, TT, (L1.out.mono (by omega) : Bay.Low _ _), H⟩, by simp [intOf]; omega⟩
      have hja1 : ((j : Int) == fl) = true := by rw [beq_iff_eq]; exact hja
      clear TW2 hja
      go_wp2_with fail
      have T0 := bflush_any b F3 _ _ (H.out.get 0 rfl) 0 (by unfold I64; decide) (L1.out.mono (by omega))
      rw [(Bay.solo_flush d1 [] r (p + 1) q).1] at T0
      refine T0.mono ?_
      rintro e w6 ⟨rfl, T⟩
      obtain ⟨F4, H1⟩ := H.out.act 0 rfl T.out
      replace H : Hid (Side w w6 [BayT b (Bay.solo d1.flush [] r (p + 1) (q + 1)) F4]) := H1
      have L2 : Hid (Bay.Low (2 * (j + 1)) (Bay.solo d1.flush [] r (p + 1) (q + 1))) := by
        have h9 := L1.out.flush 0
        rw [(Bay.solo_flush d1 [] r (p + 1) q).1] at h9
        exact h9.mono (by omega)
      have B2 : Hid (d1.flush.bad = false) := by
        rw [(Dk.flush_ok B1.out).2]
        exact B1.out
      have L3 : Hid (d1.flush.last.length = M) := by
        show _ = _
        rw [Dk.flush_len]
        exact F1.out
      have T3 : Hid (Told es fl (j + 1) d1.flush.cache) := by
        rw [(Dk.flush_ok B1.out).2]
        exact Told.nil _ _ _
      clear T T0 H1
      go_wp2_with fail
      exact ⟨⟨j + 1, d1.flush, r, p + 1, q + 1, F4, by omega, by go_num, B2, L3, T3, L2, H⟩, by simp [intOf]; omega⟩
    · obtain rfl : j = es.length := by omega
      clear hlt hj hj0
      -- the last flush
      by_cases hfn : (es.length : Int) ≤ fl
      · go_wp2_with fail
        have T0 := bflush_any b F2 _ _ (H.out.get 0 rfl) 0 (by unfold I64; decide) (LL.out.mono (by omega))
        rw [(Bay.solo_flush d [] r p q).1] at T0
        refine T0.mono ?_
        rintro e w6 ⟨rfl, T⟩
        obtain ⟨F4, H1⟩ := H.out.act 0 rfl T.out
        replace H : Hid (Side w w6 [BayT b (Bay.solo d.flush [] r p (q + 1)) F4]) := H1
        have L2 : Hid (Bay.Low 200001 (Bay.solo d.flush [] r p (q + 1))) := by
          have h9 := LL.out.flush 0
          rw [(Bay.solo_flush d [] r p q).1] at h9
          exact h9.mono (by omega)
        obtain ⟨dd, hdd⟩ : ∃ dd, dd = d.flush := ⟨_, rfl⟩
        have B2 : Hid (dd.bad = false) := by
          rw [hdd, (Dk.flush_ok hb.out).2]
          exact hb.out
        have L3 : Hid (dd.last.length = M) := by
          rw [hdd, Dk.flush_len]
          exact hl.out
        have T3 : Hid (Told es fl es.length dd.cache) := by
          rw [hdd, (Dk.flush_ok hb.out).2]
          exact Told.nil _ _ _
        have N3 : Hid ((es.length : Int) ≤ fl → dd.cache = []) := fun _ => by rw [hdd, (Dk.flush_ok hb.out).2]
        rw [← hdd] at H L2
        clear T T0 H1 LL hb hl TD hdd
        go_wp2_with fail
        have DF := Lib.hid (solo_fit (H.out.get 0 rfl))
        obtain ⟨L, hL⟩ : ∃ L, L = 128 * M := ⟨_, rfl⟩
        have hL1 : L ≤ 1048576 := by omega
        have hL2 : 0 < L := by omega
        obtain ⟨A, hA⟩ : ∃ A, A = (dd).last.flatten := ⟨_, rfl⟩
        have hAl : A.length = L := by rw [hA, Dk.flat_len (fun s hs => (DF.out.sec s hs).1), L3.out, hL]
        have hil : ∀ B : List Nat, B.length = L → (ints B).length = L := fun B hB => by rw [ints_length, hB]
        replace hil := Lib.hid hil
        replace hA := Lib.hid hA
        replace hL := Lib.hid hL
        replace hAl := Lib.hid hAl
        have T0 := bimage_any b F4 _ _ (H.out.get 0 rfl) 0 (by unfold I64; decide)
        rw [Bay.solo_image, Bay.solo_there, Dk.image_ok B2.out, ← hA.out] at T0
        refine T0.mono ?_
        rintro e w7 ⟨t1, u1, rfl, O, C⟩
        rw [hAl.out] at O
        obtain ⟨ao, ac, rfl⟩ := owns_slice O.out
        have hac := owned_cap O.out
        obtain ⟨ag, rfl⟩ := owns_head O.out hL2
        replace H : Hid (Side w w7 [ownT t1 (.slice (some ⟨ag, 0, none⟩) L ac) ((ints A).map (Value.int .u8)), BayT b (Bay.solo (dd) [] r (p) (q + 1)) F4]) := H.out.own O.out C.out
        clear O C T0
        go_wp2_with fail
        -- the first cut
        have BX := Blk.made w7 [.slice ko keep.length kc] 47
        have HL := BX.lt
        obtain ⟨s2, hs2, hs2l⟩ := Bay.solo_cut (dd) [] r (p) (q + 1) [keep]
        obtain rfl : s2 = [] := List.eq_nil_of_length_eq_zero hs2l
        rw [show [keep].getD 0 [] = keep from rfl] at hs2
        have LC : Hid (Bay.Low 200002 (Bay.solo ((dd).crash keep) [] r (p) (q + 1))) := by
          have h9 := L2.out.cut (fun x hx e he => by
            rw [List.mem_singleton.1 hx] at he
            rcases he with he | he <;> cases he) [keep]
          rw [hs2] at h9
          exact h9.mono (by omega)
        have KB : Hid (BRs (w7.alloc (.cells #[.slice ko keep.length kc] 47)) (.slice (some ⟨w7.heap.size, 0, none⟩) 1 1) [⟨.slice ko keep.length kc, keep⟩]) := by
          refine .inr ⟨_, 0, 1, rfl, HL, (show 1 ≤ 140737488355328 by decide), fun i d hd => ?_⟩
          have hd2 : d = ⟨.slice ko keep.length kc, keep⟩ ∧ i = 0 := by
            match i, hd with
            | 0, hd => exact ⟨(Option.some.inj hd).symm, rfl⟩
          obtain ⟨rfl, rfl⟩ := hd2
          exact ⟨BX.cell (j := 0) rfl, HK.out.chgNil (H.out.chg.alloc _), hkl⟩
        have HA2 := H.out.quiet ((Chg.refl [] w7).alloc (.cells #[.slice ko keep.length kc] 47))
        have T0 := Lib.hid (bcut_any b F4 _ _ (HA2.get 1 rfl) _ _ KB.out (fun _ k hk => by
            obtain rfl : w7.heap.size = k := Option.some.inj hk
            refine ⟨fun hm => ?_, HL⟩
            have := (H.out.get 1 rfl : BayIn _ _ _ _).lt _ hm
            omega) (fun d hd hn k hk => by
            obtain rfl : d = ⟨.slice ko keep.length kc, keep⟩ := by simpa using hd
            exact HA2.holdOld (j := 1) rfl (RdV.old HK.out (by simpa using hn)) k hk))
        have T1 := T0.out
        rw [show ([⟨.slice ko keep.length kc, keep⟩] : List BoolD).map (·.bs) = [keep] from rfl, hs2] at T1
        refine T1.mono ?_
        rintro e w8 ⟨rfl, T⟩
        obtain ⟨F5, H1⟩ := HA2.act 1 rfl T.out
        obtain ⟨d2, hd2⟩ : ∃ d2, d2 = (dd).crash keep := ⟨_, rfl⟩
        replace H : Hid (Side w w8 [ownT t1 (.slice (some ⟨ag, 0, none⟩) L ac) ((ints A).map (Value.int .u8)), BayT b (Bay.solo d2 [] r (p) (q + 1)) F5]) := by rw [hd2]; exact H1
        rw [← hd2] at LC
        have SEC : Hid (∀ s, s < M → ¬ d2.last.getD s [] = (dd).last.getD s [] → fl < es.length ∧ ∃ (i : Nat) (a : BOpD), es[i]? = some a ∧ a.kind = 2 ∧ fl < (i : Int) ∧ a.num = (s : Int) ∧ nats a.data = d2.last.getD s []) := fun s hs => by
          rw [hd2]
          exact T3.out.sector N3.out B2.out keep (by rw [L3.out]; exact hs)
        have b2 : Hid (d2.bad = false) := by rw [hd2, Dk.crash_bad]; exact B2.out
        have c2 : Hid (d2.cache = []) := by rw [hd2]; exact Dk.crash_cache0 B2.out keep
        have l2 : Hid (d2.last.length = M) := by rw [hd2, Dk.crash_len]; exact L3.out
        clear HL hs2 hs2l BX KB HA2 T0 T1 T H1 hd2
        obtain ⟨W, hW⟩ : ∃ W, W = d2.last.flatten := ⟨_, rfl⟩
        have DF2 := Lib.hid (solo_fit (H.out.get 1 rfl))
        have hWl : Hid (W.length = L) := by show _ = _; rw [hW, Dk.flat_len (fun s hs => (DF2.out.sec s hs).1), l2.out, hL.out]
        replace hW := Lib.hid hW
        go_wp2_with fail
        have T0 := bimage_any b F5 _ _ (H.out.get 1 rfl) 0 (by unfold I64; decide)
        rw [Bay.solo_image, Bay.solo_there, Dk.image_ok b2.out, ← hW.out] at T0
        refine T0.mono ?_
        rintro e w9 ⟨t2, u2, rfl, O, C⟩
        rw [hWl.out] at O
        obtain ⟨wo, wc, rfl⟩ := owns_slice O.out
        have hwc := owned_cap O.out
        obtain ⟨wg, rfl⟩ := owns_head O.out hL2
        replace H : Hid (Side w w9 [ownT t2 (.slice (some ⟨wg, 0, none⟩) L wc) ((ints W).map (Value.int .u8)), ownT t1 (.slice (some ⟨ag, 0, none⟩) L ac) ((ints A).map (Value.int .u8)), BayT b (Bay.solo d2 [] r (p) (q + 1)) F5]) := H.out.own O.out C.out
        clear O C T0
        go_wp2_with fail
        -- another cut
        have BX := Blk.made w9 [.slice mo more.length mc, .slice ko keep.length kc] 47
        have HL := BX.lt
        obtain ⟨s2, hs2, hs2l⟩ := Bay.solo_cut d2 [] r (p) (q + 1) [more, keep]
        obtain rfl : s2 = [] := List.eq_nil_of_length_eq_zero hs2l
        rw [Dk.crash_none c2.out] at hs2
        have KB : Hid (BRs (w9.alloc (.cells #[.slice mo more.length mc, .slice ko keep.length kc] 47)) (.slice (some ⟨w9.heap.size, 0, none⟩) 2 2) [⟨.slice mo more.length mc, more⟩, ⟨.slice ko keep.length kc, keep⟩]) := by
          refine .inr ⟨_, 0, 2, rfl, HL, (show 2 ≤ 140737488355328 by decide), fun i d hd => ?_⟩
          match i, hd with
          | 0, hd =>
            obtain rfl := (Option.some.inj hd).symm
            exact ⟨BX.cell (j := 0) rfl, HM.out.chgNil (H.out.chg.alloc _), hml⟩
          | 1, hd =>
            obtain rfl := (Option.some.inj hd).symm
            exact ⟨BX.cell (j := 1) rfl, HK.out.chgNil (H.out.chg.alloc _), hkl⟩
        have HA2 := H.out.quiet ((Chg.refl [] w9).alloc (.cells #[.slice mo more.length mc, .slice ko keep.length kc] 47))
        have T0 := Lib.hid (bcut_any b F5 _ _ (HA2.get 2 rfl) _ _ KB.out (fun _ k hk => by
            obtain rfl : w9.heap.size = k := Option.some.inj hk
            refine ⟨fun hm => ?_, HL⟩
            have := (H.out.get 2 rfl : BayIn _ _ _ _).lt _ hm
            omega) (fun d hd hn k hk => by
            rcases List.mem_cons.1 hd with rfl | hd
            · exact HA2.holdOld (j := 2) rfl (RdV.old HM.out (by simpa using hn)) k hk
            · obtain rfl := List.mem_singleton.1 hd
              exact HA2.holdOld (j := 2) rfl (RdV.old HK.out (by simpa using hn)) k hk))
        have T1 := T0.out
        rw [show ([⟨.slice mo more.length mc, more⟩, ⟨.slice ko keep.length kc, keep⟩] : List BoolD).map (·.bs) = [more, keep] from rfl, hs2] at T1
        refine T1.mono ?_
        rintro e w10 ⟨rfl, T⟩
        obtain ⟨F6, H1⟩ := HA2.act 2 rfl T.out
        replace H : Hid (Side w w10 [ownT t2 (.slice (some ⟨wg, 0, none⟩) L wc) ((ints W).map (Value.int .u8)), ownT t1 (.slice (some ⟨ag, 0, none⟩) L ac) ((ints A).map (Value.int .u8)), BayT b (Bay.solo d2 [] r (p) (q + 1)) F6]) := H1
        clear HL hs2 hs2l BX KB HA2 T0 T1 T H1
        go_wp2_with fail
        have T0 := bimage_any b F6 _ _ (H.out.get 2 rfl) 0 (by unfold I64; decide)
        rw [Bay.solo_image, Bay.solo_there, Dk.image_ok b2.out, ← hW.out] at T0
        refine T0.mono ?_
        rintro e w11 ⟨t3, u3, rfl, O, C⟩
        rw [hWl.out] at O
        obtain ⟨no, nc, rfl⟩ := owns_slice O.out
        replace H : Hid (Side w w11 [ownT t3 (.slice no L nc) ((ints W).map (Value.int .u8)), ownT t2 (.slice (some ⟨wg, 0, none⟩) L wc) ((ints W).map (Value.int .u8)), ownT t1 (.slice (some ⟨ag, 0, none⟩) L ac) ((ints A).map (Value.int .u8)), BayT b (Bay.solo d2 [] r (p) (q + 1)) F6]) := H.out.own O.out C.out
        clear O C T0
        go_wp2_with fail
        refine (same_true _ _ (ints W) _ (ownT_slB (H.out.get 1 rfl)) (ownT_slB (H.out.get 0 rfl)) (by rw [hil.out W hWl.out]; omega)).mono ?_
        rintro e w12 ⟨rfl, qd, hw⟩
        have H2 := Lib.hid (H.out.quiet (w' := w12) (by rw [hw]; exact (Chg.refl [] _).drewN _))
        clear hw H
        go_wp2_with fail
        have T0 := bpending_any b F6 _ w12 (H2.out.get 3 rfl) 0 (by unfold I64; decide) (LC.out.mono (by decide))
        rw [Bay.solo_pending, show d2.pending = [] from by unfold Dk.pending; rw [c2.out]; rfl] at T0
        refine T0.mono ?_
        rintro e w13 ⟨u, rfl, O, C⟩
        rw [show ([] : List Nat).length = 0 from rfl] at O
        obtain ⟨uo, uc, rfl⟩ := owns_slice O.out
        have H : Hid (Side w w13 [ownT t2 (.slice (some ⟨wg, 0, none⟩) L wc) ((ints W).map (Value.int .u8)), ownT t1 (.slice (some ⟨ag, 0, none⟩) L ac) ((ints A).map (Value.int .u8))]) := ((H2.out.quiet C.out).tail).sub (by simp)
        clear O C T0 H2
        go_wp2_with fail
        -- the sectors
        go_loopw [20] (fun i wr => ∃ s : Nat, s ≤ M ∧ i = .int .i64 (s : Int) ∧ Hid (Side w wr [ownT t2 (.slice (some ⟨wg, 0, none⟩) L wc) ((ints W).map (Value.int .u8)), ownT t1 (.slice (some ⟨ag, 0, none⟩) L ac) ((ints A).map (Value.int .u8))])) (fun i _ => M - (intOf i).toNat)
        case atStart => exact ⟨0, Nat.zero_le _, rfl, H⟩
        case round =>
          obtain ⟨s, hs, rfl, HH⟩ := hrel
          clear H
          have H := HH
          clear HH
          have hs0 : (0 : Int) ≤ s := Int.natCast_nonneg _
          by_cases hlt : s < M
          · have hs1 : (s : Int) < M := by omega
            obtain ⟨P, hP⟩ : ∃ P : Nat, P = 128 * s := ⟨_, rfl⟩
            obtain ⟨P2, hP2⟩ : ∃ P2 : Nat, P2 = 128 * s + 128 := ⟨_, rfl⟩
            obtain ⟨S2, hS2⟩ : ∃ S2 : Nat, S2 = s + 1 := ⟨_, rfl⟩
            have hLv := hL.out
            have e1 : (128 : Int) * (s : Int) = (P : Int) := by omega
            have e2 : (s : Int) + 1 = (S2 : Int) := by omega
            have e3 : (128 : Int) * (S2 : Int) = (P2 : Int) := by omega
            have g1 : P2 ≤ L := by omega
            have g2 : P ≤ P2 := by omega
            have g3 : P2 ≤ wc := by omega
            have g4 : P2 ≤ ac := by omega
            have g5 : (P2 : Int) ≤ L := by omega
            have g6 : (P : Int) ≤ P2 := by omega
            have g7 : ¬ wc = P := by omega
            have g8 : ¬ ac = P := by omega
            have g9 : (0 : Int) ≤ P := by omega
            have g10 : P2 - P = 128 := by omega
            have g11 : (0 : Int) ≤ P2 := by omega
            have g12 : (P2 : Int) ≤ wc := by omega
            have g13 : (P2 : Int) ≤ ac := by omega
            have g14 : P + 128 ≤ L := by omega
            have w1' : IntKind.i64.wrap (P : Int) = (P : Int) := by rw [IntKind.wrap_i64]; omega
            have w2' : IntKind.i64.wrap (P2 : Int) = (P2 : Int) := by rw [IntKind.wrap_i64]; omega
            have w3' : IntKind.i64.wrap (S2 : Int) = (S2 : Int) := by rw [IntKind.wrap_i64]; omega
            have w4' : wrap64 (P : Int) = (P : Int) := by unfold wrap64; omega
            have w5' : wrap64 (P2 : Int) = (P2 : Int) := by unfold wrap64; omega
            have w6' : wrap64 (S2 : Int) = (S2 : Int) := by unfold wrap64; omega
            obtain ⟨X, hX⟩ : ∃ X, X = d2.last.getD s [] := ⟨_, rfl⟩
            obtain ⟨Y, hY⟩ : ∃ Y, Y = (dd).last.getD s [] := ⟨_, rfl⟩
            have SX : Hid (∀ w', Side w w' [ownT t2 (.slice (some ⟨wg, 0, none⟩) L wc) ((ints W).map (Value.int .u8)), ownT t1 (.slice (some ⟨ag, 0, none⟩) L ac) ((ints A).map (Value.int .u8))] → Sl w' (.slice (some ⟨wg, P, none⟩) 128 (wc - P)) (ints X) ∧ Sl w' (.slice (some ⟨ag, P, none⟩) 128 (ac - P)) (ints Y)) := fun w' hS => by
              have q1 := ownT_slB (hS.get 0 rfl)
              have q2 := ownT_slB (hS.get 1 rfl)
              have z1 := hil.out W hWl.out
              have z2 := hil.out A hAl.out
              rw [← z1] at q1
              rw [← z2] at q2
              have r1 := q1.cut P 128 (Nat.le_trans g14 (Nat.le_of_eq z1.symm)) (Nat.le_trans (Nat.le_of_eq z1) hwc)
              have r2 := q2.cut P 128 (Nat.le_trans g14 (Nat.le_of_eq z2.symm)) (Nat.le_trans (Nat.le_of_eq z2) hac)
              rw [if_neg g7, Option.map_some, Addr.add_lit, Nat.zero_add] at r1
              rw [if_neg g8, Option.map_some, Addr.add_lit, Nat.zero_add] at r2
              have x1 := Dk.flat_cut (fun s hs => (DF2.out.sec s hs).1) (k := s) (by rw [l2.out]; exact hlt)
              have x2 := Dk.flat_cut (fun s hs => (DF.out.sec s hs).1) (k := s) (by rw [L3.out]; exact hlt)
              rw [← hW.out, ← hX, ← hP] at x1
              rw [← hA.out, ← hY, ← hP] at x2
              rw [← x1, ← x2]
              unfold ints at r1 r2 ⊢
              rw [List.map_take, List.map_drop, List.map_take, List.map_drop]
              exact ⟨r1, r2⟩
            have WIT : Hid (¬ X = Y → fl < es.length ∧ ∃ (i : Nat) (a : BOpD), es[i]? = some a ∧ a.kind = 2 ∧ fl < (i : Int) ∧ a.num = (s : Int) ∧ nats a.data = X) := by
              rw [hX, hY]
              exact SEC.out s hlt
            have XL : Hid ((ints X).length = 128 ∧ (ints Y).length = 128) := by
              rw [ints_length, ints_length, hX, hY]
              have h1 := getD_some (l := d2.last) (k := s) (by rw [l2.out]; exact hlt)
              have h2 := getD_some (l := (dd).last) (k := s) (by rw [L3.out]; exact hlt)
              exact ⟨(DF2.out.sec _ h1).1, (DF.out.sec _ h2).1⟩
            replace hP := Lib.hid hP
            replace hP2 := Lib.hid hP2
            replace hS2 := Lib.hid hS2
            replace hX := Lib.hid hX
            replace hY := Lib.hid hY
            clear hLv
            go_wp2_with fail
            refine (same_any _ _ (ints X) (ints Y) _ (SX.out _ H.out).1 (SX.out _ H.out).2 (by rw [XL.out.1]; decide) (by rw [XL.out.2]; decide)).mono ?_
            rintro e w14 ⟨rfl, qd, hw⟩
            have H3 := Lib.hid (H.out.quiet (w' := w14) (by rw [hw]; exact (Chg.refl [] _).drewN _))
            clear hw H
            obtain ⟨q0, hq0⟩ : ∃ q0, q0 = decide (ints X = ints Y) := ⟨_, rfl⟩
            rw [← hq0]
            have I0 : Hid (Left es fl s X q0 0) := by
              by_cases hxy : X = Y
              · exact .inl (by rw [hq0, hxy]; exact decide_eq_true rfl)
              · obtain ⟨g1, i, a, g2, g3, g4, g5, g6⟩ := WIT.out hxy
                exact .inr ⟨g1, i, a, Nat.zero_le _, g2, g3, g4, g5, g6⟩
            clear WIT hq0 e1 e2 e3 w1' w2' w3' w4' w5' w6' g1 g2 g3 g4 g5 g6 g10 g11 g12 g13 g14
            go_wp2_with fail
            go_loopw [22, 23] (fun bv i wr => ∃ (j : Nat) (q : Bool), j ≤ es.length ∧ bv = .bool q ∧ i = .int .i64 (j : Int) ∧ Hid (Left es fl s X q j) ∧ Hid (Side w wr [ownT t2 (.slice (some ⟨wg, 0, none⟩) L wc) ((ints W).map (Value.int .u8)), ownT t1 (.slice (some ⟨ag, 0, none⟩) L ac) ((ints A).map (Value.int .u8))])) (fun _ i _ => es.length - (intOf i).toNat)
            case atStart => exact ⟨0, q0, Nat.zero_le _, rfl, rfl, I0, H3⟩
            case round =>
              obtain ⟨j, q, hj, rfl, rfl, LF, HH⟩ := hrel
              clear H3 I0
              have H := HH
              clear HH
              have hj0 : (0 : Int) ≤ j := Int.natCast_nonneg _
              by_cases hf : fl < es.length
              case neg =>
                obtain rfl := LF.out.off hf
                have hf2 : ¬ fl < (es.length : Int) := hf
                clear LF SX XL g7 g8
                by_cases hltj : j < es.length
                · have hj1 : (j : Int) < es.length := by omega
                  go_wp2_with fail
                  exact ⟨⟨s + 1, by omega, by go_num, H⟩, by simp [intOf]; omega⟩
                · have hj1 : ¬ (j : Int) < es.length := by omega
                  go_wp2_with fail
                  exact ⟨⟨s + 1, by omega, by go_num, H⟩, by simp [intOf]; omega⟩
              exact absurd hf (by omega)
          · obtain rfl : s = M := by omega
            have CW : Hid (Chg [] w wr) := H.out.chg
            clear H
            go_wp2_with fail
            go_ret
            exact ⟨rfl, CW.out⟩
      · have N3 : Hid ((es.length : Int) ≤ fl → d.cache = []) := fun h => absurd h hfn
        have hfn2 : ¬ (es.length : Int) ≤ fl := hfn
        go_wp2_with fail
        have DF := Lib.hid (solo_fit (H.out.get 0 rfl))
        obtain ⟨L, hL⟩ : ∃ L, L = 128 * M := ⟨_, rfl⟩
        have hL1 : L ≤ 1048576 := by omega
        have hL2 : 0 < L := by omega
        obtain ⟨A, hA⟩ : ∃ A, A = (d).last.flatten := ⟨_, rfl⟩
        have hAl : A.length = L := by rw [hA, Dk.flat_len (fun s hs => (DF.out.sec s hs).1), hl.out, hL]
        have hil : ∀ B : List Nat, B.length = L → (ints B).length = L := fun B hB => by rw [ints_length, hB]
        replace hil := Lib.hid hil
        replace hA := Lib.hid hA
        replace hL := Lib.hid hL
        replace hAl := Lib.hid hAl
        have T0 := bimage_any b F2 _ _ (H.out.get 0 rfl) 0 (by unfold I64; decide)
        rw [Bay.solo_image, Bay.solo_there, Dk.image_ok hb.out, ← hA.out] at T0
        refine T0.mono ?_
        rintro e w7 ⟨t1, u1, rfl, O, C⟩
        rw [hAl.out] at O
        obtain ⟨ao, ac, rfl⟩ := owns_slice O.out
        have hac := owned_cap O.out
        obtain ⟨ag, rfl⟩ := owns_head O.out hL2
        replace H : Hid (Side w w7 [ownT t1 (.slice (some ⟨ag, 0, none⟩) L ac) ((ints A).map (Value.int .u8)), BayT b (Bay.solo (d) [] r (p) (q)) F2]) := H.out.own O.out C.out
        clear O C T0
        go_wp2_with fail
        -- the first cut
        have BX := Blk.made w7 [.slice ko keep.length kc] 47
        have HL := BX.lt
        obtain ⟨s2, hs2, hs2l⟩ := Bay.solo_cut (d) [] r (p) (q) [keep]
        obtain rfl : s2 = [] := List.eq_nil_of_length_eq_zero hs2l
        rw [show [keep].getD 0 [] = keep from rfl] at hs2
        have LC : Hid (Bay.Low 200002 (Bay.solo ((d).crash keep) [] r (p) (q))) := by
          have h9 := LL.out.cut (fun x hx e he => by
            rw [List.mem_singleton.1 hx] at he
            rcases he with he | he <;> cases he) [keep]
          rw [hs2] at h9
          exact h9.mono (by omega)
        have KB : Hid (BRs (w7.alloc (.cells #[.slice ko keep.length kc] 47)) (.slice (some ⟨w7.heap.size, 0, none⟩) 1 1) [⟨.slice ko keep.length kc, keep⟩]) := by
          refine .inr ⟨_, 0, 1, rfl, HL, (show 1 ≤ 140737488355328 by decide), fun i d hd => ?_⟩
          have hd2 : d = ⟨.slice ko keep.length kc, keep⟩ ∧ i = 0 := by
            match i, hd with
            | 0, hd => exact ⟨(Option.some.inj hd).symm, rfl⟩
          obtain ⟨rfl, rfl⟩ := hd2
          exact ⟨BX.cell (j := 0) rfl, HK.out.chgNil (H.out.chg.alloc _), hkl⟩
        have HA2 := H.out.quiet ((Chg.refl [] w7).alloc (.cells #[.slice ko keep.length kc] 47))
        have T0 := Lib.hid (bcut_any b F2 _ _ (HA2.get 1 rfl) _ _ KB.out (fun _ k hk => by
            obtain rfl : w7.heap.size = k := Option.some.inj hk
            refine ⟨fun hm => ?_, HL⟩
            have := (H.out.get 1 rfl : BayIn _ _ _ _).lt _ hm
            omega) (fun d hd hn k hk => by
            obtain rfl : d = ⟨.slice ko keep.length kc, keep⟩ := by simpa using hd
            exact HA2.holdOld (j := 1) rfl (RdV.old HK.out (by simpa using hn)) k hk))
        have T1 := T0.out
        rw [show ([⟨.slice ko keep.length kc, keep⟩] : List BoolD).map (·.bs) = [keep] from rfl, hs2] at T1
        refine T1.mono ?_
        rintro e w8 ⟨rfl, T⟩
        obtain ⟨F5, H1⟩ := HA2.act 1 rfl T.out
        obtain ⟨d2, hd2⟩ : ∃ d2, d2 = (d).crash keep := ⟨_, rfl⟩
        replace H : Hid (Side w w8 [ownT t1 (.slice (some ⟨ag, 0, none⟩) L ac) ((ints A).map (Value.int .u8)), BayT b (Bay.solo d2 [] r (p) (q)) F5]) := by rw [hd2]; exact H1
        rw [← hd2] at LC
        have SEC : Hid (∀ s, s < M → ¬ d2.last.getD s [] = (d).last.getD s [] → fl < es.length ∧ ∃ (i : Nat) (a : BOpD), es[i]? = some a ∧ a.kind = 2 ∧ fl < (i : Int) ∧ a.num = (s : Int) ∧ nats a.data = d2.last.getD s []) := fun s hs => by
          rw [hd2]
          exact TD.out.sector N3.out hb.out keep (by rw [hl.out]; exact hs)
        have b2 : Hid (d2.bad = false) := by rw [hd2, Dk.crash_bad]; exact hb.out
        have c2 : Hid (d2.cache = []) := by rw [hd2]; exact Dk.crash_cache0 hb.out keep
        have l2 : Hid (d2.last.length = M) := by rw [hd2, Dk.crash_len]; exact hl.out
        clear HL hs2 hs2l BX KB HA2 T0 T1 T H1 hd2
        obtain ⟨W, hW⟩ : ∃ W, W = d2.last.flatten := ⟨_, rfl⟩
        have DF2 := Lib.hid (solo_fit (H.out.get 1 rfl))
        have hWl : Hid (W.length = L) := by show _ = _; rw [hW, Dk.flat_len (fun s hs => (DF2.out.sec s hs).1), l2.out, hL.out]
        replace hW := Lib.hid hW
        go_wp2_with fail
        have T0 := bimage_any b F5 _ _ (H.out.get 1 rfl) 0 (by unfold I64; decide)
        rw [Bay.solo_image, Bay.solo_there, Dk.image_ok b2.out, ← hW.out] at T0
        refine T0.mono ?_
        rintro e w9 ⟨t2, u2, rfl, O, C⟩
        rw [hWl.out] at O
        obtain ⟨wo, wc, rfl⟩ := owns_slice O.out
        have hwc := owned_cap O.out
        obtain ⟨wg, rfl⟩ := owns_head O.out hL2
        replace H : Hid (Side w w9 [ownT t2 (.slice (some ⟨wg, 0, none⟩) L wc) ((ints W).map (Value.int .u8)), ownT t1 (.slice (some ⟨ag, 0, none⟩) L ac) ((ints A).map (Value.int .u8)), BayT b (Bay.solo d2 [] r (p) (q)) F5]) := H.out.own O.out C.out
        clear O C T0
        go_wp2_with fail
        -- another cut
        have BX := Blk.made w9 [.slice mo more.length mc, .slice ko keep.length kc] 47
        have HL := BX.lt
        obtain ⟨s2, hs2, hs2l⟩ := Bay.solo_cut d2 [] r (p) (q) [more, keep]
        obtain rfl : s2 = [] := List.eq_nil_of_length_eq_zero hs2l
        rw [Dk.crash_none c2.out] at hs2
        have KB : Hid (BRs (w9.alloc (.cells #[.slice mo more.length mc, .slice ko keep.length kc] 47)) (.slice (some ⟨w9.heap.size, 0, none⟩) 2 2) [⟨.slice mo more.length mc, more⟩, ⟨.slice ko keep.length kc, keep⟩]) := by
          refine .inr ⟨_, 0, 2, rfl, HL, (show 2 ≤ 140737488355328 by decide), fun i d hd => ?_⟩
          match i, hd with
          | 0, hd =>
            obtain rfl := (Option.some.inj hd).symm
            exact ⟨BX.cell (j := 0) rfl, HM.out.chgNil (H.out.chg.alloc _), hml⟩
          | 1, hd =>
            obtain rfl := (Option.some.inj hd).symm
            exact ⟨BX.cell (j := 1) rfl, HK.out.chgNil (H.out.chg.alloc _), hkl⟩
        have HA2 := H.out.quiet ((Chg.refl [] w9).alloc (.cells #[.slice mo more.length mc, .slice ko keep.length kc] 47))
        have T0 := Lib.hid (bcut_any b F5 _ _ (HA2.get 2 rfl) _ _ KB.out (fun _ k hk => by
            obtain rfl : w9.heap.size = k := Option.some.inj hk
            refine ⟨fun hm => ?_, HL⟩
            have := (H.out.get 2 rfl : BayIn _ _ _ _).lt _ hm
            omega) (fun d hd hn k hk => by
            rcases List.mem_cons.1 hd with rfl | hd
            · exact HA2.holdOld (j := 2) rfl (RdV.old HM.out (by simpa using hn)) k hk
            · obtain rfl := List.mem_singleton.1 hd
              exact HA2.holdOld (j := 2) rfl (RdV.old HK.out (by simpa using hn)) k hk))
        have T1 := T0.out
        rw [show ([⟨.slice mo more.length mc, more⟩, ⟨.slice ko keep.length kc, keep⟩] : List BoolD).map (·.bs) = [more, keep] from rfl, hs2] at T1
        refine T1.mono ?_
        rintro e w10 ⟨rfl, T⟩
        obtain ⟨F6, H1⟩ := HA2.act 2 rfl T.out
        replace H : Hid (Side w w10 [ownT t2 (.slice (some ⟨wg, 0, none⟩) L wc) ((ints W).map (Value.int .u8)), ownT t1 (.slice (some ⟨ag, 0, none⟩) L ac) ((ints A).map (Value.int .u8)), BayT b (Bay.solo d2 [] r (p) (q)) F6]) := H1
        clear HL hs2 hs2l BX KB HA2 T0 T1 T H1
        go_wp2_with fail
        have T0 := bimage_any b F6 _ _ (H.out.get 2 rfl) 0 (by unfold I64; decide)
        rw [Bay.solo_image, Bay.solo_there, Dk.image_ok b2.out, ← hW.out] at T0
        refine T0.mono ?_
        rintro e w11 ⟨t3, u3, rfl, O, C⟩
        rw [hWl.out] at O
        obtain ⟨no, nc, rfl⟩ := owns_slice O.out
        replace H : Hid (Side w w11 [ownT t3 (.slice no L nc) ((ints W).map (Value.int .u8)), ownT t2 (.slice (some ⟨wg, 0, none⟩) L wc) ((ints W).map (Value.int .u8)), ownT t1 (.slice (some ⟨ag, 0, none⟩) L ac) ((ints A).map (Value.int .u8)), BayT b (Bay.solo d2 [] r (p) (q)) F6]) := H.out.own O.out C.out
        clear O C T0
        go_wp2_with fail
        refine (same_true _ _ (ints W) _ (ownT_slB (H.out.get 1 rfl)) (ownT_slB (H.out.get 0 rfl)) (by rw [hil.out W hWl.out]; omega)).mono ?_
        rintro e w12 ⟨rfl, qd, hw⟩
        have H2 := Lib.hid (H.out.quiet (w' := w12) (by rw [hw]; exact (Chg.refl [] _).drewN _))
        clear hw H
        go_wp2_with fail
        have T0 := bpending_any b F6 _ w12 (H2.out.get 3 rfl) 0 (by unfold I64; decide) (LC.out.mono (by decide))
        rw [Bay.solo_pending, show d2.pending = [] from by unfold Dk.pending; rw [c2.out]; rfl] at T0
        refine T0.mono ?_
        rintro e w13 ⟨u, rfl, O, C⟩
        rw [show ([] : List Nat).length = 0 from rfl] at O
        obtain ⟨uo, uc, rfl⟩ := owns_slice O.out
        have H : Hid (Side w w13 [ownT t2 (.slice (some ⟨wg, 0, none⟩) L wc) ((ints W).map (Value.int .u8)), ownT t1 (.slice (some ⟨ag, 0, none⟩) L ac) ((ints A).map (Value.int .u8))]) := ((H2.out.quiet C.out).tail).sub (by simp)
        clear O C T0 H2
        go_wp2_with fail
        -- the sectors
        go_loopw [20] (fun i wr => ∃ s : Nat, s ≤ M ∧ i = .int .i64 (s : Int) ∧ Hid (Side w wr [ownT t2 (.slice (some ⟨wg, 0, none⟩) L wc) ((ints W).map (Value.int .u8)), ownT t1 (.slice (some ⟨ag, 0, none⟩) L ac) ((ints A).map (Value.int .u8))])) (fun i _ => M - (intOf i).toNat)
        case atStart => exact ⟨0, Nat.zero_le _, rfl, H⟩
        case round =>
          obtain ⟨s, hs, rfl, HH⟩ := hrel
          clear H
          have H := HH
          clear HH
          have hs0 : (0 : Int) ≤ s := Int.natCast_nonneg _
          by_cases hlt : s < M
          · have hs1 : (s : Int) < M := by omega
            obtain ⟨P, hP⟩ : ∃ P : Nat, P = 128 * s := ⟨_, rfl⟩
            obtain ⟨P2, hP2⟩ : ∃ P2 : Nat, P2 = 128 * s + 128 := ⟨_, rfl⟩
            obtain ⟨S2, hS2⟩ : ∃ S2 : Nat, S2 = s + 1 := ⟨_, rfl⟩
            have hLv := hL.out
            have e1 : (128 : Int) * (s : Int) = (P : Int) := by omega
            have e2 : (s : Int) + 1 = (S2 : Int) := by omega
            have e3 : (128 : Int) * (S2 : Int) = (P2 : Int) := by omega
            have g1 : P2 ≤ L := by omega
            have g2 : P ≤ P2 := by omega
            have g3 : P2 ≤ wc := by omega
            have g4 : P2 ≤ ac := by omega
            have g5 : (P2 : Int) ≤ L := by omega
            have g6 : (P : Int) ≤ P2 := by omega
            have g7 : ¬ wc = P := by omega
            have g8 : ¬ ac = P := by omega
            have g9 : (0 : Int) ≤ P := by omega
            have g10 : P2 - P = 128 := by omega
            have g11 : (0 : Int) ≤ P2 := by omega
            have g12 : (P2 : Int) ≤ wc := by omega
            have g13 : (P2 : Int) ≤ ac := by omega
            have g14 : P + 128 ≤ L := by omega
            have w1' : IntKind.i64.wrap (P : Int) = (P : Int) := by rw [IntKind.wrap_i64]; omega
            have w2' : IntKind.i64.wrap (P2 : Int) = (P2 : Int) := by rw [IntKind.wrap_i64]; omega
            have w3' : IntKind.i64.wrap (S2 : Int) = (S2 : Int) := by rw [IntKind.wrap_i64]; omega
            have w4' : wrap64 (P : Int) = (P : Int) := by unfold wrap64; omega
            have w5' : wrap64 (P2 : Int) = (P2 : Int) := by unfold wrap64; omega
            have w6' : wrap64 (S2 : Int) = (S2 : Int) := by unfold wrap64; omega
            obtain ⟨X, hX⟩ : ∃ X, X = d2.last.getD s [] := ⟨_, rfl⟩
            obtain ⟨Y, hY⟩ : ∃ Y, Y = (d).last.getD s [] := ⟨_, rfl⟩
            have SX : Hid (∀ w', Side w w' [ownT t2 (.slice (some ⟨wg, 0, none⟩) L wc) ((ints W).map (Value.int .u8)), ownT t1 (.slice (some ⟨ag, 0, none⟩) L ac) ((ints A).map (Value.int .u8))] → Sl w' (.slice (some ⟨wg, P, none⟩) 128 (wc - P)) (ints X) ∧ Sl w' (.slice (some ⟨ag, P, none⟩) 128 (ac - P)) (ints Y)) := fun w' hS => by
              have q1 := ownT_slB (hS.get 0 rfl)
              have q2 := ownT_slB (hS.get 1 rfl)
              have z1 := hil.out W hWl.out
              have z2 := hil.out A hAl.out
              rw [← z1] at q1
              rw [← z2] at q2
              have r1 := q1.cut P 128 (Nat.le_trans g14 (Nat.le_of_eq z1.symm)) (Nat.le_trans (Nat.le_of_eq z1) hwc)
              have r2 := q2.cut P 128 (Nat.le_trans g14 (Nat.le_of_eq z2.symm)) (Nat.le_trans (Nat.le_of_eq z2) hac)
              rw [if_neg g7, Option.map_some, Addr.add_lit, Nat.zero_add] at r1
              rw [if_neg g8, Option.map_some, Addr.add_lit, Nat.zero_add] at r2
              have x1 := Dk.flat_cut (fun s hs => (DF2.out.sec s hs).1) (k := s) (by rw [l2.out]; exact hlt)
              have x2 := Dk.flat_cut (fun s hs => (DF.out.sec s hs).1) (k := s) (by rw [hl.out]; exact hlt)
              rw [← hW.out, ← hX, ← hP] at x1
              rw [← hA.out, ← hY, ← hP] at x2
              rw [← x1, ← x2]
              unfold ints at r1 r2 ⊢
              rw [List.map_take, List.map_drop, List.map_take, List.map_drop]
              exact ⟨r1, r2⟩
            have WIT : Hid (¬ X = Y → fl < es.length ∧ ∃ (i : Nat) (a : BOpD), es[i]? = some a ∧ a.kind = 2 ∧ fl < (i : Int) ∧ a.num = (s : Int) ∧ nats a.data = X) := by
              rw [hX, hY]
              exact SEC.out s hlt
            have XL : Hid ((ints X).length = 128 ∧ (ints Y).length = 128) := by
              rw [ints_length, ints_length, hX, hY]
              have h1 := getD_some (l := d2.last) (k := s) (by rw [l2.out]; exact hlt)
              have h2 := getD_some (l := (d).last) (k := s) (by rw [hl.out]; exact hlt)
              exact ⟨(DF2.out.sec _ h1).1, (DF.out.sec _ h2).1⟩
            replace hP := Lib.hid hP
            replace hP2 := Lib.hid hP2
            replace hS2 := Lib.hid hS2
            replace hX := Lib.hid hX
            replace hY := Lib.hid hY
            clear hLv
            go_wp2_with fail
            refine (same_any _ _ (ints X) (ints Y) _ (SX.out _ H.out).1 (SX.out _ H.out).2 (by rw [XL.out.1]; decide) (by rw [XL.out.2]; decide)).mono ?_
            rintro e w14 ⟨rfl, qd, hw⟩
            have H3 := Lib.hid (H.out.quiet (w' := w14) (by rw [hw]; exact (Chg.refl [] _).drewN _))
            clear hw H
            obtain ⟨q0, hq0⟩ : ∃ q0, q0 = decide (ints X = ints Y) := ⟨_, rfl⟩
            rw [← hq0]
            have I0 : Hid (Left es fl s X q0 0) := by
              by_cases hxy : X = Y
              · exact .inl (by rw [hq0, hxy]; exact decide_eq_true rfl)
              · obtain ⟨g1, i, a, g2, g3, g4, g5, g6⟩ := WIT.out hxy
                exact .inr ⟨g1, i, a, Nat.zero_le _, g2, g3, g4, g5, g6⟩
            clear WIT hq0 e1 e2 e3 w1' w2' w3' w4' w5' w6' g1 g2 g3 g4 g5 g6 g10 g11 g12 g13 g14
            go_wp2_with fail
            go_loopw [22, 23] (fun bv i wr => ∃ (j : Nat) (q : Bool), j ≤ es.length ∧ bv = .bool q ∧ i = .int .i64 (j : Int) ∧ Hid (Left es fl s X q j) ∧ Hid (Side w wr [ownT t2 (.slice (some ⟨wg, 0, none⟩) L wc) ((ints W).map (Value.int .u8)), ownT t1 (.slice (some ⟨ag, 0, none⟩) L ac) ((ints A).map (Value.int .u8))])) (fun _ i _ => es.length - (intOf i).toNat)
            case atStart => exact ⟨0, q0, Nat.zero_le _, rfl, rfl, I0, H3⟩
            case round =>
              obtain ⟨j, q, hj, rfl, rfl, LF, HH⟩ := hrel
              clear H3 I0
              have H := HH
              clear HH
              have hj0 : (0 : Int) ≤ j := Int.natCast_nonneg _
              by_cases hf : fl < es.length
              case neg =>
                exact absurd hf (by omega)
              have hf2 : fl < (es.length : Int) := hf
              by_cases hltj : j < es.length
              case neg =>
                have hj1 : ¬ (j : Int) < es.length := by omega
                obtain rfl : j = es.length := by omega
                obtain rfl := LF.out.done
                clear LF SX XL g7 g8
                go_wp2_with fail
                exact ⟨⟨s + 1, by omega, by go_num, H⟩, by simp [intOf]; omega⟩
              have hj1 : (j : Int) < es.length := by omega
              cases q with
              | true =>
                clear SX XL LF
                go_wp2_with fail
                exact ⟨⟨j + 1, true, by omega, rfl, by go_num, .inl rfl, H⟩, by simp [intOf]; omega⟩
              | false =>
                obtain ⟨a, ha⟩ : ∃ a, es[j]? = some a := ⟨_, List.getElem?_eq_getElem hltj⟩
                obtain ⟨b2, o2, rfl, hb2, RI⟩ := HV.out.at ha
                have RW := RI.chg hb2 H.out.chg
                have k0 := RW.c0
                have k2 := RW.c2
                have k3 := RW.c3
                have DV := Lib.hid RW.s3
                have hg := RI.g3
                have hby := Lib.hid RI.y3
                have r2' := RI.r2
                have r0' := RI.r0
                obtain ⟨x3, y3, e3⟩ := RI.s3.slice
                have LS : Hid (¬ (a.kind = 2 ∧ fl < (j : Int) ∧ a.num = (s : Int) ∧ nats a.data = X) → Left es fl s X false (j + 1)) := fun hn => LF.out.skip ha hn
                clear ha RI RW LF
                obtain ⟨K, P9, N, dv, xs, kv9, ks9⟩ := a
                dsimp only at k0 k2 k3 DV hg hby r2' r0' e3 LS
                subst e3
                by_cases hk2 : K = 2
                case neg =>
                  have hk3 : ¬ K = 2 := hk2
                  have LN := Lib.hid (LS.out (fun h => hk2 h.1))
                  clear LS SX XL hby DV hg
                  go_wp2_with fail
                  exact ⟨⟨j + 1, false, by omega, rfl, by go_num, LN, H⟩, by simp [intOf]; omega⟩
                subst hk2
                by_cases hfj : fl < (j : Int)
                case neg =>
                  have hfj2 : ¬ fl < (j : Int) := hfj
                  have LN := Lib.hid (LS.out (fun h => hfj h.2.1))
                  clear LS SX XL hby DV hg
                  go_wp2_with fail
                  exact ⟨⟨j + 1, false, by omega, rfl, by go_num, LN, H⟩, by simp [intOf]; omega⟩
                have hfj2 : fl < (j : Int) := hfj
                by_cases hns : N = (s : Int)
                case neg =>
                  have hns2 : (N == (s : Int)) = false := by rw [beq_eq_false_iff_ne]; exact hns
                  have LN := Lib.hid (LS.out (fun h => hns h.2.2.1))
                  clear LS SX XL hby DV hg hns
                  go_wp2_with fail
                  exact ⟨⟨j + 1, false, by omega, rfl, by go_num, LN, H⟩, by simp [intOf]; omega⟩
                subst hns
                have SM := Lib.hid (same_any _ _ (ints X) xs _ (SX.out _ H.out).1 DV.out (by rw [XL.out.1]; decide) hg)
                obtain ⟨q1, hq1⟩ : ∃ q1, q1 = decide (ints X = xs) := ⟨_, rfl⟩
                rw [← hq1] at SM
                have LN : Hid (Left es fl s X q1 (j + 1)) := by
                  by_cases hx : ints X = xs
                  · exact .inl (by rw [hq1]; exact decide_eq_true hx)
                  · rw [hq1, decide_eq_false hx]
                    exact LS.out (fun h => hx (by rw [← h.2.2.2, ints_nats hby.out]))
                clear LS hby DV hg hq1
                go_wp2_with fail
                refine SM.out.mono ?_
                rintro e w15 ⟨rfl, qd, hw⟩
                have H4 := Lib.hid (H.out.quiet (w' := w15) (by rw [hw]; exact (Chg.refl [] _).drewN _))
                clear hw H SM k0 k2 k3
                go_wp2_with fail
                exact ⟨⟨j + 1, q1, by omega, rfl, by go_num, LN, H4⟩, by simp [intOf]; omega⟩
          · obtain rfl : s = M := by omega
            have CW : Hid (Chg [] w wr) := H.out.chg
            clear H
            go_wp2_with fail
            go_ret
            exact ⟨rfl, CW.out⟩

end Go.Proofs.Ytljhpdgjajhgbaa
