/-
  BayAway walked. By an AI agent.
-/
import Derived.Test.YtljhpdgjajhgbaaBySolo
import Derived.Test.YtljhpdgjajhgbaaByKnown
import Derived.Test.YtljhpdgjajhgbaaByMuch
namespace Go.Proofs.Ytljhpdgjajhgbaa
open Go.RowKit

namespace Bay

theorem newErr_pair {s t : Int} (ht : 1 ≤ t ∧ t ≤ 8192) : (Bay.newErr [s, t] ≠ 0 → Bay.newErr [s, t] = 40) ∧ (Bay.newErr [s, t] = 0 → 0 ≤ s ∧ s ≤ 8192) := by
  have e : Bay.newErr [s, t] = if decide (s < 0 ∨ 8192 < s) || decide (t < 0 ∨ 8192 < t) then 40 else 0 := by simp [Bay.newErr]
  rw [e]
  have h2 : decide (t < 0 ∨ 8192 < t) = false := by simp; omega
  rw [h2, Bool.or_false]
  by_cases h : s < 0 ∨ 8192 < s
  · simp [h]
  · simp [h]
    omega

theorem new_pair {s t : Int} (hs : 1 ≤ s) : Bay.new [s, t] = solo (Dk.new s.toNat) [slotOf t] 0 0 0 := by
  unfold Bay.new solo
  have : slotOf s = ⟨some ⟨Dk.new s.toNat, none⟩, none, none⟩ := by unfold slotOf; rw [if_neg (by omega)]
  simp [this]

end Bay

theorem Dk.image_len {d : Dk} (h : d.Fit) : d.last.flatten.length ≤ 1048576 := by
  rw [flat_len (fun s hs => (h.sec s hs).1)]
  have := h.hi
  omega

/-- The disk that is pulled. -/
theorem Dk.crash_off {d : Dk} (hb : d.bad = false) : d.crash [] = ⟨d.last, [], false⟩ := by
  rw [crash_ok hb, kept_nil]
  cases d
  simp_all

theorem solo_fit {w : World} {b : Nat} {d : Dk} {s : List Slot} {r p q : Nat} {F : List Nat} (h : (BayT b (Bay.solo d s r p q) F).P w) : d.Fit := by
  have h1 : BayIn w b F (Bay.solo d s r p q) := h
  exact (h1.fit.devs ⟨some ⟨d, none⟩, none, none⟩ (List.mem_cons_self ..) ⟨d, none⟩ (.inl rfl)).1

theorem I64.num {n : Int} (h : -9223372036854775808 ≤ n ∧ n ≤ 9223372036854775807) : I64 n := h

set_option maxHeartbeats 4000000 in
set_option maxRecDepth 100000 in
theorem bayAway_walk (sz : Int) (v : Value) (es : List BOpD) (at_ : Int) (kv : Value) (keep : List Bool) (w : World) (hs : I64 sz) (hv : BOps w v es) (ha : I64 at_) (hk : RdV w kv (keep.map Value.bool)) (hkl : keep.length ≤ 140737488355328) :
    Calls Try.prog 5 #[.int .i64 sz, v, .int .i64 at_, kv] w fun e w' => e = .returned (.bool true) ∧ Chg [] w w' := by
  have HV := Lib.hid hv
  have HK := Lib.hid hk
  have hlen := hv.len
  obtain ⟨vo, vc, rfl⟩ := hv.slice
  obtain ⟨ko, kc, rfl⟩ := hk.slice
  rw [List.length_map] at HK ⊢
  have HS := Lib.hid hs
  have HA := Lib.hid ha
  have hs1 := hs.1
  have hs2 := hs.2
  have ha1 := ha.1
  have ha2 := ha.2
  have hk0 : (0 : Int) ≤ keep.length := Int.natCast_nonneg _
  clear hv hk hs ha
  go_enter Try.func5, Try.ntmps5
  go_wp2_with fail
  refine (bmuch_any none 0 0 _ es w (by decide) HV.out).mono ?_
  rintro e w1 ⟨much, rfl, hmuch, q1, hw1⟩
  have C1 : Hid (Chg [] w w1) := by rw [hw1]; exact (Chg.refl [] w).drewN q1
  clear hw1
  cases much with
  | true =>
    go_wp2_with fail
    go_ret
    exact ⟨rfl, C1.out⟩
  | false =>
  have hel : es.length ≤ 100000 := by have := hmuch rfl; omega
  clear hmuch
  by_cases hkb : keep.length ≤ 100000
  case neg =>
    have hkb1 : ¬ (keep.length : Int) ≤ 100000 := by omega
    go_wp2_with fail
    go_ret
    exact ⟨rfl, C1.out⟩
  have hkb1 : (keep.length : Int) ≤ 100000 := by omega
  go_wp2_with fail
  have BX := Blk.made w1 [.int .i64 sz, .int .i64 1] 3
  have NW := Lib.hid (bnew_any (.slice (some ⟨w1.heap.size, 0, none⟩) 2 2) [sz, 1] (w1.alloc (.cells #[.int .i64 sz, .int .i64 1] 3)) (.inr ⟨_, 0, 2, rfl, BX.lt, fun j u hj => by rw [Nat.zero_add]; exact BX.cell hj⟩) (by intro n hn; have := HS.out; unfold I64 at this; simp at hn; omega) (show 2 ≤ 140737488355328 by decide))
  clear BX
  have CA : Hid (Chg [] w (w1.alloc (.cells #[.int .i64 sz, .int .i64 1] 3))) := C1.out.alloc _
  have PR := Lib.hid (Bay.newErr_pair (s := sz) (t := 1) (by decide))
  refine NW.out.mono ?_
  rintro e w2 (⟨hno, rfl, C⟩ | ⟨hyes, b, F, rfl, D, N, C⟩)
  · have h40 := PR.out.1 hno
    have CW : Hid (Chg [] w w2) := CA.out.trans C.out
    rw [h40]
    clear NW CA C C1 PR hno h40
    go_wp2_with fail
    refine (bknown_any w2).mono ?_
    rintro e w3 ⟨rfl, C⟩
    go_wp2_with fail
    go_ret
    exact ⟨rfl, CW.out.trans C.out⟩
  have hsz := PR.out.2 hyes
  have H : Hid (Side w w2 [BayT b (Bay.new [sz, 1]) F]) := (Side.nil CA.out).add C.out D.out (fun k hk => by have := N.out k hk; simp at this; simp; omega)
  clear NW CA D N C C1 PR hyes
  go_wp2_with fail
  refine (bknown_any w2).mono ?_
  rintro e w3 ⟨rfl, C⟩
  replace H : Hid (Side w w3 [BayT b (Bay.new [sz, 1]) F]) := H.out.quiet C.out
  clear C
  by_cases hs0 : sz = 0
  · have CW : Hid (Chg [] w w3) := H.out.chg
    subst hs0
    go_wp2_with fail
    go_ret
    exact ⟨rfl, CW.out⟩
  have hs3 : ¬ sz = 0 := hs0
  go_wp2_with fail
  obtain ⟨d0, hd0⟩ : ∃ d, d = Dk.new sz.toNat := ⟨_, rfl⟩
  obtain ⟨s0, hs0'⟩ : ∃ s, s = [Bay.slotOf 1] := ⟨_, rfl⟩
  have LW : Hid (Bay.Low 0 (Bay.solo d0 s0 0 0 0)) := by
    have := Bay.new_low [sz, 1]
    rw [Bay.new_pair (by omega), ← hd0, ← hs0'] at this
    exact this
  rw [Bay.new_pair (by omega), ← hd0, ← hs0'] at H
  have hb0 : d0.bad = false := by rw [hd0]; rfl
  have SC : Hid (∀ x ∈ s0, x.aside = none ∧ x.coming = none) := by
    rw [hs0']
    intro x hx
    obtain rfl := List.mem_singleton.1 hx
    exact ⟨rfl, rfl⟩
  clear hd0 hs0'
  obtain ⟨fl, hfl⟩ : ∃ fl, fl = d0.last.flatten := ⟨_, rfl⟩
  have T0 := bimage_any b F _ w3 (H.out.get 0 rfl) 0 (by unfold I64; decide)
  rw [Bay.solo_image, Bay.solo_there, Dk.image_ok hb0, ← hfl] at T0
  refine T0.mono ?_
  rintro e w4 ⟨t1, u1, rfl, O, C⟩
  replace H : Hid (Side w w4 [ownT t1 u1 ((ints fl).map (Value.int .u8)), BayT b (Bay.solo d0 s0 0 0 0) F]) := H.out.own O.out C.out
  replace hfl := Lib.hid hfl
  replace hb0 := Lib.hid hb0
  clear O C T0
  go_wp2_with fail
  go_loopw [11, 12, 13] (fun fu x i wr => ∃ (j : Nat) (t1 : TypeId) (fl : List Nat) (d : Dk) (r p q : Nat) (F : List Nat), j ≤ es.length ∧ x = .int .u16 0 ∧ i = .int .i64 (j : Int) ∧ Hid (fl = d.last.flatten) ∧ Hid (d.bad = false) ∧ Hid (Bay.Low (2 * j) (Bay.solo d s0 r p q)) ∧ Hid (Side w wr [ownT t1 fu ((ints fl).map (Value.int .u8)), BayT b (Bay.solo d s0 r p q) F])) (fun _ _ i _ => es.length - (intOf i).toNat)
  case atStart => exact ⟨0, t1, fl, d0, 0, 0, 0, F, Nat.zero_le _, rfl, rfl, hfl, hb0, LW, H⟩
  case round =>
    obtain ⟨j, t2, fl2, d, r, p, q, F2, hj, rfl, rfl, hf, hb, LL, HH⟩ := hrel
    clear H hfl hb0 LW
    have H := HH
    clear HH
    have hj0 : (0 : Int) ≤ j := Int.natCast_nonneg _
    by_cases hlt : j < es.length
    · have hj1 : (j : Int) < es.length := by omega
      obtain ⟨a, ha⟩ : ∃ a, es[j]? = some a := ⟨_, List.getElem?_eq_getElem hlt⟩
      obtain ⟨b2, o2, rfl, hb2, RI⟩ := HV.out.at ha
      have CC : Hid (∀ w', Chg [] w w' → BOpIn w' b2 (o2 + j * 5) a) := fun w' c => RI.chg hb2 c
      have DO : Hid (a.data ≠ [] → ∀ k, a.dataV.ownBlock = some k → k < w.heap.size) := fun hx => RI.s3.old hx
      have kr := RI.r0
      have hg := RI.g3
      have hby := Lib.hid RI.y3
      have hpn : Hid (I64 a.num) := RI.r2
      obtain ⟨x3, y3, e3⟩ := RI.s3.slice
      clear ha RI
      have k0 := (CC.out _ H.out.chg).c0
      by_cases hk2 : a.kind = 2
      case neg =>
        have hk3 : ¬ a.kind = 2 := hk2
        go_wp2_with fail
        exact ⟨⟨j + 1, t2, fl2, d, r, p, q, F2, by omega, rfl, by go_num, hf, hb, (LL.out.mono (by omega) : Bay.Low _ _), H⟩, by simp [intOf]; omega⟩
      rw [hk2] at k0
      clear kr hk2
      go_wp2_with fail
      have f2 := (CC.out _ H.out.chg).c2
      have f3 := (CC.out _ H.out.chg).c3
      obtain ⟨N, hN⟩ : ∃ N : Int, N = a.num := ⟨_, rfl⟩
      rw [← hN] at f2 hpn
      obtain ⟨dv, hdv⟩ : ∃ dv : Value, dv = a.dataV := ⟨_, rfl⟩
      obtain ⟨xs, hxs⟩ : ∃ xs, xs = a.data := ⟨_, rfl⟩
      rw [← hdv] at f3
      have QQ : Hid (∀ w', Chg [] w w' → w'.cell? ⟨b2, o2 + j * 5 + 2, none⟩ = some (.int .i64 N) ∧ w'.cell? ⟨b2, o2 + j * 5 + 3, none⟩ = some dv) := fun w' c => by rw [hN, hdv]; exact ⟨(CC.out w' c).c2, (CC.out w' c).c3⟩
      have DV : Hid (∀ w', Chg [] w w' → Sl w' dv xs) := fun w' c => by rw [hdv, hxs]; exact (CC.out w' c).s3
      rw [← hdv, ← hxs] at DO
      rw [← hxs] at hby hg
      clear CC e3 hN hdv hxs k0
      go_region_held3 (fun w' : World => w'.cell? ⟨b2, o2 + j * 5 + 2, none⟩ = some (.int .i64 N) ∧ w'.cell? ⟨b2, o2 + j * 5 + 3, none⟩ = some dv) (first | exact (QQ.out _ H2.out.chg) | exact ⟨f2, f3⟩) (first | (go_at_call 28; refine (bwrite_any b F2 _ _ ((H.out.quiet ((Chg.refl [] wr).drewN 1)).get 1 rfl) 0 N (by unfold I64; decide) hpn.out dv xs (DV.out _ (H.out.chg.trans ((Chg.refl [] wr).drewN 1))) hby.out hg (fun hx => (H.out.quiet ((Chg.refl [] wr).drewN 1)).holdOld (j := 1) rfl (DO.out hx)) (LL.out.mono (by omega))).mono ?_; rintro e w5 ⟨rfl, T⟩; obtain ⟨F3, H1⟩ := (H.out.quiet ((Chg.refl [] wr).drewN 1)).act 1 rfl T.out; have H2 : Hid (Side w w5 [ownT t2 u11 ((ints fl2).map (Value.int .u8)), BayT b ((Bay.solo d s0 r p q).write 0 N (nats xs)) F3]) := H1))
      clear H f2 f3
      have H : Hid (Side w w5 [ownT t2 u11 ((ints fl2).map (Value.int .u8)), BayT b (Bay.solo (d.write N (nats xs)) s0 r (p + 1) q) F3]) := by
        have h9 := H2.out
        rw [(Bay.solo_write d s0 r p q N (nats xs)).1] at h9
        exact h9
      have L1 : Hid (Bay.Low (2 * j + 1) (Bay.solo (d.write N (nats xs)) s0 r (p + 1) q)) := by
        have h9 := LL.out.write 0 N (nats xs)
        rw [(Bay.solo_write d s0 r p q N (nats xs)).1] at h9
        exact h9
      have B1 : Hid ((d.write N (nats xs)).bad = false) := by rw [Dk.w_bad]; exact hb
      have F1 : Hid (fl2 = (d.write N (nats xs)).last.flatten) := by rw [Dk.w_last]; exact hf
      obtain ⟨d1, hd1⟩ : ∃ d1, d1 = d.write N (nats xs) := ⟨_, rfl⟩
      rw [← hd1] at H L1 B1 F1
      clear hd1 H2 T LL hb hf H1 QQ DV DO hby hpn
      by_cases hja : (j : Int) = at_
      case neg =>
        have hja2 : ¬ (j : Int) = at_ := hja
        go_wp2_with fail
        exact ⟨⟨j + 1, t2, fl2, d1, r, p + 1, q, F3, by omega, rfl, by go_num, F1, B1, (L1.out.mono (by omega) : Bay.Low _ _), H⟩, by simp [intOf]; omega⟩
      have hja1 := hja
      go_wp2_with fail
      have T0 := bflush_any b F3 _ w5 (H.out.get 1 rfl) 0 (by unfold I64; decide) (L1.out.mono (by omega))
      rw [(Bay.solo_flush d1 s0 r (p + 1) q).1] at T0
      refine T0.mono ?_
      rintro e w6 ⟨rfl, T⟩
      obtain ⟨F4, H1⟩ := H.out.act 1 rfl T.out
      replace H : Hid (Side w w6 [ownT t2 u11 ((ints fl2).map (Value.int .u8)), BayT b (Bay.solo d1.flush s0 r (p + 1) (q + 1)) F4]) := H1
      have L2 : Hid (Bay.Low (2 * (j + 1)) (Bay.solo d1.flush s0 r (p + 1) (q + 1))) := by
        have h9 := L1.out.flush 0
        rw [(Bay.solo_flush d1 s0 r (p + 1) q).1] at h9
        exact h9.mono (by omega)
      have B2 : Hid (d1.flush.bad = false) := by
        rw [(Dk.flush_ok B1.out).2]
        exact B1.out
      clear T T0 L1 B1 F1 H1
      replace H : Hid (Side w w6 [BayT b (Bay.solo d1.flush s0 r (p + 1) (q + 1)) F4]) := H.out.tail
      go_wp2_with fail
      have T0 := bimage_any b F4 _ w6 (H.out.get 0 rfl) 0 (by unfold I64; decide)
      rw [Bay.solo_image, Bay.solo_there, Dk.image_ok B2.out] at T0
      refine T0.mono ?_
      rintro e w7 ⟨t4, u4, rfl, O, C⟩
      replace H : Hid (Side w w7 [ownT t4 u4 ((ints d1.flush.last.flatten).map (Value.int .u8)), BayT b (Bay.solo d1.flush s0 r (p + 1) (q + 1)) F4]) := H.out.own O.out C.out
      clear O C T0
      go_wp2_with fail
      exact ⟨⟨j + 1, t4, _, d1.flush, r, p + 1, q + 1, F4, by omega, rfl, by go_num, rfl, B2, L2, H⟩, by simp [intOf]; omega⟩
    · obtain rfl : j = es.length := by omega
      go_wp2_with fail
      clear hlt hj hj0
      replace HV : Hid (w.heap.size ≤ wr.heap.size) := H.out.chg.size
      have LO := LL.out.mono (k := 2 * es.length) (m := 1000000) (by omega)
      have T0 := bpull_any b F2 _ wr (H.out.get 1 rfl) 0 (by unfold I64; decide)
      rw [Bay.solo_there, Bay.solo_pull, Dk.crash_off hb.out] at T0
      refine T0.mono ?_
      rintro e w5 ⟨rfl, T⟩
      obtain ⟨F3, H1⟩ := H.out.act 1 rfl T.out
      have L1 : Hid (Bay.Low 1000000 (Bay.gone ⟨none, some ⟨⟨d.last, [], false⟩, none⟩, none⟩ s0 r p q)) := by
        have h9 := LO.pull 0
        rw [Bay.solo_pull, Dk.crash_off hb.out] at h9
        exact h9
      obtain ⟨dd, hdd⟩ : ∃ dd : Dk, dd = ⟨d.last, [], false⟩ := ⟨_, rfl⟩
      rw [← hdd] at H1 L1
      have FL : Hid (dd.image = fl2 ∧ dd.pending = [] ∧ dd.bad = false ∧ dd.cache = []) := by rw [hdd]; exact ⟨hf.out.symm, rfl, rfl, rfl⟩
      replace H : Hid (Side w w5 [ownT t2 u11 ((ints fl2).map (Value.int .u8)), BayT b (Bay.gone ⟨none, some ⟨dd, none⟩, none⟩ s0 r p q) F3]) := H1
      clear T T0 H1 LL LO hf hb hdd
      have G0 := Lib.hid (Bay.gone_none (x := ⟨none, some ⟨dd, none⟩, none⟩) rfl s0 r p q)
      go_wp2_with fail
      have T0 := bhas_any b F3 _ w5 (H.out.get 1 rfl) 0 (by unfold I64; decide)
      rw [G0.out.1] at T0
      refine T0.mono ?_
      rintro e w6 ⟨rfl, qd, hw⟩
      replace H : Hid (Side w w6 [ownT t2 u11 ((ints fl2).map (Value.int .u8)), BayT b (Bay.gone ⟨none, some ⟨dd, none⟩, none⟩ s0 r p q) F3]) := H.out.quiet (by rw [hw]; exact (Chg.refl [] _).drewN _)
      clear hw T0
      go_wp2_with fail
      have T0 := bsectors_any b F3 _ w6 (H.out.get 1 rfl) 0 (by unfold I64; decide)
      rw [G0.out.2.1] at T0
      refine T0.mono ?_
      rintro e w7 ⟨rfl, qd, hw⟩
      replace H : Hid (Side w w7 [ownT t2 u11 ((ints fl2).map (Value.int .u8)), BayT b (Bay.gone ⟨none, some ⟨dd, none⟩, none⟩ s0 r p q) F3]) := H.out.quiet (by rw [hw]; exact (Chg.refl [] _).drewN _)
      clear hw T0 G0
      go_wp2_with fail
      have G1 := Lib.hid (Bay.gone_push ⟨dd, none⟩ s0 r p q)
      have T0 := bpush_any b F3 _ w7 (H.out.get 1 rfl) 0 (by unfold I64; decide)
      rw [G1.out.1, G1.out.2] at T0
      refine T0.mono ?_
      rintro e w8 ⟨rfl, T⟩
      obtain ⟨F4, H1⟩ := H.out.act 1 rfl T.out
      replace L1 : Hid (Bay.Low 1000000 (Bay.gone ⟨none, none, some ⟨dd, none⟩⟩ s0 r p q)) := by
        have h9 := L1.out.push 0
        rw [G1.out.1] at h9
        exact h9
      replace H : Hid (Side w w8 [ownT t2 u11 ((ints fl2).map (Value.int .u8)), BayT b (Bay.gone ⟨none, none, some ⟨dd, none⟩⟩ s0 r p q) F4]) := H1
      clear T T0 H1 G1
      go_wp2_with fail
      have G0 := Lib.hid (Bay.gone_none (x := ⟨none, none, some ⟨dd, none⟩⟩) rfl s0 r p q)
      have T0 := bread_any b F4 _ w8 (H.out.get 1 rfl) 0 0 (by unfold I64; decide) (by unfold I64; decide) (L1.out.mono (by decide))
      rw [(G0.out.2.2.2 0).1, (G0.out.2.2.2 0).2, G0.out.2.2.1] at T0
      refine T0.mono ?_
      rintro e w9 ⟨rx, rfl, T⟩
      obtain ⟨t5, F5, H1⟩ := H.out.actOwn 1 rfl T.out
      replace L1 : Hid (Bay.Low 1000001 (Bay.gone ⟨none, none, some ⟨dd, none⟩⟩ s0 (r + 1) p q)) := by
        have h9 := L1.out.start 0 1
        rw [show (Bay.gone ⟨none, none, some ⟨dd, none⟩⟩ s0 r p q).start 0 1 = _ from G0.out.2.2.1] at h9
        exact h9
      replace H : Hid (Side w w9 [ownT t2 u11 ((ints fl2).map (Value.int .u8)), BayT b (Bay.gone ⟨none, none, some ⟨dd, none⟩⟩ s0 (r + 1) p q) F5]) := H1.tail
      clear T T0 H1 G0
      go_wp2_with fail
      have G0 := Lib.hid (Bay.gone_none (x := ⟨none, none, some ⟨dd, none⟩⟩) rfl s0 (r + 1) p q)
      have T0 := bhas_any b F5 _ w9 (H.out.get 1 rfl) 0 (by unfold I64; decide)
      rw [G0.out.1] at T0
      refine T0.mono ?_
      rintro e w10 ⟨rfl, qd, hw⟩
      replace H : Hid (Side w w10 [ownT t2 u11 ((ints fl2).map (Value.int .u8)), BayT b (Bay.gone ⟨none, none, some ⟨dd, none⟩⟩ s0 (r + 1) p q) F5]) := H.out.quiet (by rw [hw]; exact (Chg.refl [] _).drewN _)
      clear hw T0 G0
      go_wp2_with fail
      have G1 := Lib.hid (Bay.gone_push2 ⟨dd, none⟩ s0 (r + 1) p q)
      have T0 := bpush_any b F5 _ w10 (H.out.get 1 rfl) 0 (by unfold I64; decide)
      rw [G1.out.1, G1.out.2] at T0
      refine T0.mono ?_
      rintro e w11 ⟨rfl, T⟩
      obtain ⟨F6, H1⟩ := H.out.act 1 rfl T.out
      replace H : Hid (Side w w11 [ownT t2 u11 ((ints fl2).map (Value.int .u8)), BayT b (Bay.gone ⟨none, none, some ⟨dd, none⟩⟩ s0 (r + 1) p q) F6]) := H1
      clear T T0 H1 G1
      go_wp2_with fail
      have BX := Blk.made w11 [.slice ko keep.length kc, .slice ko keep.length kc] 47
      have HL := BX.lt
      obtain ⟨s2, hs2⟩ := Bay.gone_cut dd s0 (r + 1) p q [keep, keep]
      have LCUT : Hid (Bay.Low 1000000000 (Bay.solo dd s2 (r + 1) p q)) := by
        have h9 := L1.out.cut (fun x hx e he => by
          rcases List.mem_cons.1 hx with rfl | hx
          · rcases he with he | he
            · cases he
            · obtain rfl : (⟨dd, none⟩ : Dev) = e := by simpa using he
              exact FL.out.2.2.2
          · obtain ⟨h1, h2⟩ := SC.out x hx
            rw [h1, h2] at he
            rcases he with he | he <;> cases he) [keep, keep]
        rw [hs2] at h9
        exact h9.mono (by decide)
      have KB : Hid (BRs (w11.alloc (.cells #[.slice ko keep.length kc, .slice ko keep.length kc] 47)) (.slice (some ⟨w11.heap.size, 0, none⟩) 2 2) [⟨.slice ko keep.length kc, keep⟩, ⟨.slice ko keep.length kc, keep⟩]) := by
        refine .inr ⟨_, 0, 2, rfl, HL, (show 2 ≤ 140737488355328 by decide), fun i d hd => ?_⟩
        have hd2 : d = ⟨.slice ko keep.length kc, keep⟩ ∧ i < 2 := by
          match i, hd with
          | 0, hd => exact ⟨(Option.some.inj hd).symm, by decide⟩
          | 1, hd => exact ⟨(Option.some.inj hd).symm, by decide⟩
        obtain ⟨rfl, hi2⟩ := hd2
        refine ⟨?_, HK.out.chgNil (H.out.chg.alloc _), hkl⟩
        rw [Nat.zero_add]
        match i, hi2 with
        | 0, _ => exact BX.cell (j := 0) rfl
        | 1, _ => exact BX.cell (j := 1) rfl
      have HA2 := H.out.quiet ((Chg.refl [] w11).alloc (.cells #[.slice ko keep.length kc, .slice ko keep.length kc] 47))
      have T0 := Lib.hid (bcut_any b F6 _ _ (HA2.get 1 rfl) _ _ KB.out (fun _ k hk => by
          obtain rfl : w11.heap.size = k := Option.some.inj hk
          refine ⟨fun hm => ?_, HL⟩
          have := (H.out.get 1 rfl : BayIn _ _ _ _).lt _ hm
          omega) (fun d hd hn k hk => by
          obtain rfl : d = ⟨.slice ko keep.length kc, keep⟩ := by simpa using hd
          exact HA2.holdOld (j := 1) rfl (RdV.old HK.out (by simpa using hn)) k hk))
      have T1 := T0.out
      rw [show ([⟨.slice ko keep.length kc, keep⟩, ⟨.slice ko keep.length kc, keep⟩] : List BoolD).map (·.bs) = [keep, keep] from rfl, hs2] at T1
      refine T1.mono ?_
      rintro e w12 ⟨rfl, T⟩
      obtain ⟨F7, H1⟩ := HA2.act 1 rfl T.out
      replace H : Hid (Side w w12 [ownT t2 u11 ((ints fl2).map (Value.int .u8)), BayT b (Bay.solo dd s2 (r + 1) p q) F7]) := H1
      have DF := Lib.hid (solo_fit (H.out.get 1 rfl))
      have big := Dk.image_len DF.out
      rw [← Dk.image_ok FL.out.2.2.1, FL.out.1] at big
      clear HL hs2 BX KB HA2 T0 T1 T H1 DF
      go_wp2_with fail
      have T0 := bimage_any b F7 _ w12 (H.out.get 1 rfl) 0 (by unfold I64; decide)
      rw [Bay.solo_image, Bay.solo_there, FL.out.1] at T0
      refine T0.mono ?_
      rintro e w13 ⟨t5, u5, rfl, O, C⟩
      replace H : Hid (Side w w13 [ownT t5 u5 ((ints fl2).map (Value.int .u8)), ownT t2 u11 ((ints fl2).map (Value.int .u8)), BayT b (Bay.solo dd s2 (r + 1) p q) F7]) := H.out.own O.out C.out
      clear O C T0
      go_wp2_with fail
      have T0 := bhas_any b F7 _ w13 (H.out.get 2 rfl) 0 (by unfold I64; decide)
      rw [Bay.solo_has, FL.out.2.2.1] at T0
      refine T0.mono ?_
      rintro e w14 ⟨rfl, qd, hw⟩
      replace H : Hid (Side w w14 [ownT t5 u5 ((ints fl2).map (Value.int .u8)), ownT t2 u11 ((ints fl2).map (Value.int .u8)), BayT b (Bay.solo dd s2 (r + 1) p q) F7]) := H.out.quiet (by rw [hw]; exact (Chg.refl [] _).drewN _)
      clear hw T0
      go_wp2_with fail
      refine (same_true _ _ (ints fl2) _ (ownT_slB (H.out.get 0 rfl)) (ownT_slB (H.out.get 1 rfl)) (by rw [ints_length]; omega)).mono ?_
      rintro e w15 ⟨rfl, qd, hw⟩
      replace H : Hid (Side w w15 [ownT t5 u5 ((ints fl2).map (Value.int .u8)), ownT t2 u11 ((ints fl2).map (Value.int .u8)), BayT b (Bay.solo dd s2 (r + 1) p q) F7]) := H.out.quiet (by rw [hw]; exact (Chg.refl [] _).drewN _)
      clear hw
      go_wp2_with fail
      have T0 := bpending_any b F7 _ w15 (H.out.get 2 rfl) 0 (by unfold I64; decide) LCUT.out
      rw [Bay.solo_pending, FL.out.2.1] at T0
      refine T0.mono ?_
      rintro e w16 ⟨u, rfl, O, C⟩
      rw [show ([] : List Nat).length = 0 from rfl] at O
      obtain ⟨uo, uc, rfl⟩ := owns_slice O.out
      have CW : Hid (Chg [] w w16) := H.out.chg.trans C.out
      clear O C T0 H
      go_wp2_with fail
      go_ret
      exact ⟨rfl, CW.out⟩

end Go.Proofs.Ytljhpdgjajhgbaa
