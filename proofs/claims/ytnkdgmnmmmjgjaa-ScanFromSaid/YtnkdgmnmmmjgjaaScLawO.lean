/-
  ScanFrom: its walk. By an AI agent.
-/
import Derived.Test.YtnkdgmnmmmjgjaaScLawR
import Derived.Test.YtnkdgmnmmmjgjaaScFrR
import Derived.Deep.RegionHeld3
import Derived.Deep.QuietTactic
import Derived.BigQuiet
namespace Go.Proofs.Ytnkdgmnmmmjgjaa
open Go.RowKit Crc

namespace Sc

theorem ringed_len {n at_ first : Nat} {L : List (List Pd)} (hn : 1 ≤ n) (hg : ∀ l ∈ L, Good l) : (ringed n at_ first L).length = 128 * n := by
  unfold ringed
  rw [layK_len (by rw [noughts_len]; omega) (fun s hs => (chain_ok hg s hs).1) at_ (Nat.le_refl _), noughts_len]

theorem ringed_bs {n at_ first : Nat} {L : List (List Pd)} (hg : ∀ l ∈ L, Good l) : Bs (ringed n at_ first L) := layK_bs (noughts_bs _) (fun s hs => (chain_ok hg s hs).2) at_ _

theorem ringed_sec {n at_ first : Nat} {L : List (List Pd)} (hn : 1 ≤ n) (hg : ∀ l ∈ L, Good l) (hl : (chain 9 first L).length ≤ n) : ∀ (j : Nat) (s : List Nat), (chain 9 first L)[j]? = some s → sec (ringed n at_ first L) (at_ + j) = s := fun j s h =>
  sec_layK (by rw [noughts_len]; omega) (fun s hs => (chain_ok hg s hs).1) at_ (Nat.le_refl _) (by rw [noughts_len]; omega) (List.getElem?_eq_some_iff.1 h).1 h

theorem ringed_from {n at_ first : Nat} {L : List (List Pd)} (hn : 1 ≤ n) (h1 : 1 ≤ first) (hf : first ≤ 65536) (hg : ∀ l ∈ L, Good l) (hl : (chain 9 first L).length ≤ n) (hL : L.length ≤ 60) {i : Nat} (hi : i < L.length) :
    Done (ringed n at_ first L) 9 ((at_ + (chain 9 first (L.take i)).length) % n) (first + i) (L.drop i) (chain 9 (first + i) (L.drop i)).length := by
  have hlen := ringed_len (at_ := at_) (first := first) hn hg
  have hq : (ringed n at_ first L).length / 128 = n := by omega
  have h := from_done (ring := ringed n at_ first L) (ep := 9) (at_ := at_) (sq := first) (ringed_bs hg) (by decide) h1 (L := L) (ringed_sec hn hg hl) (fun q hq2 => by
    unfold ringed
    rw [sec_layK_other (by rw [noughts_len]; omega) (fun s hs => (chain_ok hg s hs).1) at_ (Nat.le_refl _) (fun j hj => by
      have := hq2 j hj
      rw [hq] at this
      rw [noughts_len, Nat.mul_div_cancel_left _ (by decide : 0 < 128)]; exact this)]
    exact sec_noughts hn q) hg (by rw [hq]; exact hl) (by omega) hi
  rw [hq] at h
  exact h

end Sc

set_option maxHeartbeats 4000000 in
set_option maxRecDepth 100000 in
theorem from_any (z tl sq kk : Nat) (v : Value) (ds : List PlD) (w : World) (hz : z ≤ 255) (ht : tl ≤ 255) (hsq : sq ≤ 65535) (hkk : kk ≤ 255) (h : Pls w v ds) :
    Calls Try.prog 5 #[.int .u8 (z : Int), .int .u8 (tl : Int), .int .u16 (sq : Int), v, .int .u8 (kk : Int)] w fun e W' => e = .returned (.bool true) ∧ Chg [] w W' := by
  obtain ⟨ao, vc, rfl⟩ := h.slice
  have HP : Hid (∀ w', Chg [] w w' → Pls w' (.slice ao ds.length vc) ds) := fun w' c => h.chg c
  have RO := Lib.hid (ringOf_any z tl sq _ ds w hz ht hsq h)
  obtain ⟨N0, hN0⟩ : ∃ N, N = ds.length := ⟨_, rfl⟩
  rw [← hN0] at HP RO ⊢
  clear h hN0
  obtain ⟨n, hn⟩ : ∃ n, n = z % 60 + 5 := ⟨_, rfl⟩
  obtain ⟨at_, hat⟩ : ∃ at_, at_ = tl % n := ⟨_, rfl⟩
  obtain ⟨fi, hfi⟩ : ∃ fi, fi = sq + 1 := ⟨_, rfl⟩
  rw [← hn, ← hat, ← hfi] at RO
  have n1 : 5 ≤ n := by omega
  have n2 : n ≤ 64 := by omega
  have a1 : at_ < n := by rw [hat]; exact Nat.mod_lt _ (by omega)
  have f1 : 1 ≤ fi := by omega
  have f2 : fi ≤ 65536 := by omega
  clear hz ht hsq hn hat hfi
  go_enter Try.func5, Try.ntmps5
  go_wp2_with fail
  refine RO.out.mono ?_
  rintro e w1 ⟨rv, tv, bv, A, vs, rfl, GA, hA40, H⟩
  obtain ⟨N, hN⟩ : ∃ N, N = A.length := ⟨_, rfl⟩
  have GD : Hid (∀ l ∈ A.map pdsOf, Sc.Good l) := GA.out.good
  have RL : Hid ((Sc.ringed n at_ fi (A.map pdsOf)).length = 128 * n) := Sc.ringed_len (by omega) GD.out
  obtain ⟨L, hL⟩ : ∃ L, L = 128 * n := ⟨_, rfl⟩
  have O1 := (show w1.ownsRow 0 5 1 rv (ub (Sc.ringed n at_ fi (A.map pdsOf))).length (ub (Sc.ringed n at_ fi (A.map pdsOf))) from H.out.get 0 rfl)
  rw [ub_len, RL.out, ← hL] at O1
  obtain ⟨rg, rc, rfl, _⟩ := own_some O1 (by omega)
  have CAP : L ≤ rc := owned_cap O1
  have O2 := (show w1.ownsRow 0 3 1 bv (intV (begs (fun x => (at_ + x) % n) fi A)).length (intV (begs (fun x => (at_ + x) % n) fi A)) from H.out.get 1 rfl)
  have O3 := (show OwnW 2 w1 0 33 tv (txA fi A) from H.out.get 2 rfl)
  obtain ⟨ao2, ac2, e2⟩ := owns_slice O2
  obtain ⟨ao3, ac3, e3⟩ := O3.slice
  rw [intV_len, begs_len, ← hN] at e2
  rw [txA_len, ← hN] at e3
  subst e2 e3
  have CAP3 : N ≤ ac3 := owned_cap O3.2
  have HN := Lib.hid hN
  have HL := Lib.hid hL
  rw [← hN] at hA40
  clear O1 O2 O3 RO hN hL
  go_wp2_with fail
  refine (known_any _).mono ?_
  rintro e w2 ⟨rfl, C2⟩
  replace H := Lib.hid (H.out.quiet C2.out)
  clear C2
  by_cases h0 : N = 0
  · subst h0
    have CF := Lib.hid H.out.chg
    go_wp2_with fail
    go_ret
    exact ⟨rfl, CF.out⟩
  obtain ⟨i, hi⟩ : ∃ i, i = kk % N := ⟨_, rfl⟩
  have hiN : i < N := by rw [hi]; exact Nat.mod_lt _ (by omega)
  have k0 : (0 : Int) ≤ kk := Int.natCast_nonneg _
  have k1 : (kk : Int) ≤ 255 := by omega
  have k2 : (kk : Int) % N = (i : Int) := by rw [hi]; push_cast; rfl
  have k3 : Int.tmod (kk : Int) N = (i : Int) := (Int.tmod_eq_emod_of_nonneg k0).trans k2
  have k4 : ¬ (N : Int) = 0 := by omega
  have k5 : ((N : Int) == 0) = false := by simpa using k4
  obtain ⟨bg, rfl⟩ : ∃ bg, ao2 = some ⟨bg, 0, none⟩ := owns_head (show w2.ownsRow 0 3 1 (.slice ao2 N ac2) (intV (begs (fun x => (at_ + x) % n) fi A)).length (intV (begs (fun x => (at_ + x) % n) fi A)) from H.out.get 1 rfl) (by omega)
  obtain ⟨tg, rfl⟩ : ∃ tg, ao3 = some ⟨tg, 0, none⟩ := (show OwnW 2 w2 0 33 (.slice ao3 N ac3) (txA fi A) from H.out.get 2 rfl).head (by rw [txA_len, ← HN.out]; omega)
  obtain ⟨s, hs⟩ : ∃ s, s = fi + i := ⟨_, rfl⟩
  obtain ⟨b, hb⟩ : ∃ b, b = (at_ + (gchain fi (A.take i)).length) % n := ⟨_, rfl⟩
  have hbn : b < n := by rw [hb]; exact Nat.mod_lt _ (by omega)
  have CX : Hid (∀ W, Chg [] w2 W → W.cell? ⟨tg, i * 2, none⟩ = some (.int .u64 (s : Int)) ∧ W.cell? ⟨bg, i, none⟩ = some (.int .i64 (b : Int))) := fun W c => by
    have h1 := (show OwnW 2 W 0 33 (.slice (some ⟨tg, 0, none⟩) N ac3) (txA fi A) from (H.out.quiet c).get 2 rfl).rd
    obtain ⟨d, hd⟩ : ∃ d, A[i]? = some d := ⟨_, List.getElem?_eq_getElem (by rw [← HN.out]; exact hiN)⟩
    obtain ⟨g, hg, hc⟩ := h1.at (txA_at fi hd)
    obtain rfl : tg = g := by injection hg with h9; injection h9
    have h2 := (show W.ownsRow 0 3 1 (.slice (some ⟨bg, 0, none⟩) N ac2) (intV (begs (fun x => (at_ + x) % n) fi A)).length (intV (begs (fun x => (at_ + x) % n) fi A)) from (H.out.quiet c).get 1 rfl)
    rw [intV_len, begs_len, ← HN.out] at h2
    refine ⟨by have := hc 0 _ rfl; rw [Nat.add_zero] at this; rw [this, hs], ownsRow_cellAt h2 ?_⟩
    unfold intV
    rw [List.getElem?_map, begs_at _ _ _ (by rw [← HN.out]; exact hiN), hb]
    rfl
  have CL : Hid (∀ W, Chg [] w2 W → W.cell? ⟨tg, (N - 1) * 2, none⟩ = some (.int .u64 (((fi + (N - 1) : Nat)) : Int))) := fun W c => by
    have h1 := (show OwnW 2 W 0 33 (.slice (some ⟨tg, 0, none⟩) N ac3) (txA fi A) from (H.out.quiet c).get 2 rfl).rd
    obtain ⟨d, hd⟩ : ∃ d, A[N - 1]? = some d := ⟨_, List.getElem?_eq_getElem (by rw [← HN.out]; omega)⟩
    obtain ⟨g, hg, hc⟩ := h1.at (txA_at fi hd)
    obtain rfl : tg = g := by injection hg with h9; injection h9
    exact hc 0 _ rfl
  have hML : (A.map pdsOf).length = N := by rw [List.length_map, HN.out]
  have DN := Sc.ringed_from (n := n) (at_ := at_) (first := fi) (L := A.map pdsOf) (by omega) f1 f2 GD.out GA.out.fits (by omega) (i := i) (by omega)
  have hb2 : b = (at_ + (Sc.chain 9 fi ((A.map pdsOf).take i)).length) % n := by rw [hb]; unfold gchain; rw [List.map_take]
  rw [← hb2, ← hs] at DN
  have hDL : ((A.map pdsOf).drop i).length = N - i := by rw [List.length_drop, hML]
  obtain ⟨NI, hNI⟩ : ∃ NI, NI = N - i := ⟨_, rfl⟩
  obtain ⟨nx, hnx⟩ : ∃ nx, nx = fi + N := ⟨_, rfl⟩
  have OF : Hid (∀ W, Chg [] w2 W → Calls Try.prog 12 #[.slice (some ⟨rg, 0, none⟩) L rc, .agg #[.int .u64 9, .int .u64 (s : Int), .int .i64 (b : Int)]] W fun e w' => ∃ us hd, OfF W s ((A.map pdsOf).drop i) NI nx hd us e w') := fun W c => by
    have o := (show W.ownsRow 0 5 1 (.slice (some ⟨rg, 0, none⟩) L rc) (ub (Sc.ringed n at_ fi (A.map pdsOf))).length (ub (Sc.ringed n at_ fi (A.map pdsOf))) from (H.out.quiet c).get 0 rfl)
    have k := of_found DN (n := n) ⟨RL.out, by omega, by omega, ⟨⟨by show 9 ≤ _; decide, by show 1 ≤ s; omega, by show s ≤ _; omega⟩, by show (0 : Int) ≤ (b : Int); omega, by show (b : Int) ≤ 2047; omega⟩, by omega⟩ (Sc.ringed_bs GD.out) rg 0 rc W (by rw [← HL.out]; exact CAP) (o.lt rg (by simp [Value.ownBlock])).2 (by
      rw [← HL.out]
      exact Sl.owned (n := (ub (Sc.ringed n at_ fi (A.map pdsOf))).length) o)
    rw [hDL, ← HL.out, show s + (N - i) = fi + N by omega] at k
    rw [← hNI, ← hnx] at k
    exact k.mono fun e w' h => ⟨_, _, h⟩
  have HS := Lib.hid hs
  have HNI := Lib.hid hNI
  have HNX := Lib.hid hnx
  clear hi hkk hb DN hb2 hDL hML hs hNI hnx
  obtain ⟨z1, z2⟩ := CX.out w2 (Chg.refl _ _)
  go_wp2_with fail
  refine region_cutQ _ (fr_region w2 rg L rc tg N ac3 bg ac2 i s b NI nx ((A.map pdsOf).drop i) [] _ _ _ _ _ _ _ _ _ _ _ _ _ _ _ _ _ _ _ _ _ _ _ _ _ _ _ _ _ _ _ _ _ _ _ _ _ _ _ _ _ _ _ _ _ _ _ _ _ _ _ _ _ _ _ _ _ _ _ _ _ _ _ _ _ _ _ _ _ _ hiN (fun W c => CX.out W ((Chg.refl [] w2).drew.trans c)) (fun W c => OF.out W ((Chg.refl [] w2).drew.trans c)) (by kernel_rfl)) ?_
  rintro a' W ⟨xb, fc, hd, us, fv, T, rfl, FT, H3⟩
  have CW : Hid (Chg [] w2 W) := (Chg.refl [] w2).drew.trans H3.out.chg
  obtain ⟨K, hK⟩ : ∃ K, K = N - 1 := ⟨_, rfl⟩
  obtain ⟨Q, hQ⟩ : ∃ Q, Q = fi + K := ⟨_, rfl⟩
  have hNX2 := HNX.out
  have WK : Hid (IntKind.i64.wrap (K : Int) = (K : Int) ∧ wrap64 (K : Int) = (K : Int)) := sc_wrap (by omega) (by omega)
  have WN : Hid (IntKind.u64.wrap (nx : Int) = (nx : Int)) := IntWalk.u64_in _ (by omega)
  clear hNX2
  have x0 := (show Blk W xb 41 [.slice fv NI fc, .int .u64 (nx : Int), .int .i64 (hd : Int), .int .i64 (us : Int)] from H3.out.get 0 rfl).cell (j := 0) rfl
  have x1 := (show Blk W xb 41 [.slice fv NI fc, .int .u64 (nx : Int), .int .i64 (hd : Int), .int .i64 (us : Int)] from H3.out.get 0 rfl).cell (j := 1) rfl
  have c7 := CL.out W CW.out
  rw [← hK, ← hQ] at c7
  have TL : Hid (T.length = NI) := by
    have h := congrArg List.length FT.out
    rw [List.length_drop, List.length_map, ← HN.out, ← HNI.out] at h
    unfold found at h
    rw [List.length_map] at h
    exact h
  have TG : Hid (∀ (j : Nat) (t : Tx), T[j]? = some t → ∃ d, A[i + j]? = some d ∧ dOf t.2 = pdsOf d) := fun j t ht => by
    have e1 : (found T)[j]? = some (dOf t.2) := by unfold found; rw [List.getElem?_map, ht]; rfl
    rw [FT.out, List.getElem?_drop, List.getElem?_map] at e1
    obtain ⟨d, hd, e2⟩ := Option.map_eq_some_iff.1 e1
    exact ⟨d, hd, e2.symm⟩
  have SM : Hid (∀ q, Calls Try.prog 13 #[.slice fv NI fc, .slice (some ⟨tg, i * 2, none⟩) NI (ac3 - i)] (W.drewN q) fun e w' => e = .returned (.bool true) ∧ ∃ q', w' = (W.drewN q).drewN q') := fun q => by
    have C9 : Chg [] w2 (W.drewN q) := CW.out.drewN q
    have t1 : Txs (W.drewN q) (.slice fv NI fc) (txFs s T) := txs_found (H3.out.quiet ((Chg.refl _ _).drewN q)).tail (by rw [TL.out]; have := HNI.out; omega) (fun t ht => by
      obtain ⟨j, hj⟩ := List.mem_iff_getElem?.1 ht
      obtain ⟨d, hd, e⟩ := TG.out j t hj
      rw [e]
      exact (GA.out.mem d (List.mem_of_getElem? hd)).2.1)
    have t2 : Txs (W.drewN q) (.slice (some ⟨tg, 0, none⟩) N ac3) (txDs fi A) := txs_gath ((H.out.quiet C9).get 2 rfl) (by rw [← HN.out]; omega) (fun d hd => by
      obtain ⟨k, hk⟩ := List.mem_iff_getElem?.1 (GA.out.mem d hd).1
      obtain ⟨_, _, _, _, I⟩ := (HP.out _ (H.out.chg.trans C9)).at hk
      exact I.pt)
    have t3 := t2.suf (k := i) (by rw [txDs_len, ← HN.out]; exact hiN) (ac3 - i)
    rw [txDs_len, ← HN.out, ← HNI.out, Option.map_some, Addr.add_lit, Nat.zero_add] at t3
    refine sameTxns_true _ _ _ _ _ t1 t3 (by rw [txFs_len, List.length_drop, txDs_len, TL.out, ← HN.out, HNI.out]) (fun j p q hp hq => ?_)
    have hj : j < T.length := by rw [← txFs_len s T]; exact (List.getElem?_eq_some_iff.1 hp).1
    have ht := List.getElem?_eq_getElem hj
    rw [txFs_at s ht] at hp
    obtain ⟨d, hd, e⟩ := TG.out j _ ht
    rw [List.getElem?_drop, txDs_at fi hd] at hq
    obtain rfl := Option.some.inj hp
    obtain rfl := Option.some.inj hq
    rw [show fi + (i + j) = s + j by rw [HS.out]; omega]
    exact tx_alike e (GA.out.mem d (List.mem_of_getElem? hd)).2.2 _ _
  have CE : Hid (Chg [] w W) := H.out.chg.trans CW.out
  have m0 : i ≤ N := by omega
  have m1 : N - i = NI := HNI.out.symm
  have m2 : ¬ ac3 = i := by omega
  have m3 : (N : Int) - 1 = (K : Int) := by omega
  have m4 : (K : Int) < N := by omega
  have m5 : (Q : Int) + 1 = (nx : Int) := by have := HNX.out; omega
  have m6 : (0 : Int) ≤ K := by omega
  have W1 := WK.out
  have W2 := WN.out
  clear CX OF z1 z2 hK hQ CL GA H3 FT TG TL
  go_wp2_with fail
  go_quiet (first | (go_at_call 13; exact Calls.quiet_of (SM.out _)))
  go_wp2_with fail
  go_ret
  exact ⟨by first | rfl | simp, CE.out.drewN _⟩

end Go.Proofs.Ytnkdgmnmmmjgjaa
