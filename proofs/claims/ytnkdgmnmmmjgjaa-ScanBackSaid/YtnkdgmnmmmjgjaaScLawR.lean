/-
  ringOf: a ring with batches. By an AI agent.
-/
import Derived.Test.YtnkdgmnmmmjgjaaScGat
namespace Go.Proofs.Ytnkdgmnmmmjgjaa
open Go.RowKit Crc

theorem info_int1 : (Try.prog.info? 3).map (fun i => (i.zero, i.size, i.bytes)) = some (some (.int .i64 0), 1, 8) := by kernel_rfl

/-- What ringOf gives. -/
def RingGives (w : World) (n at_ first : Nat) (ds : List PlD) (e : Ending) (w' : World) : Prop := ∃ rv tv bv A vs, e = .returned (.tuple #[rv, tv, bv]) ∧ Hid (GoodA n first ds A vs) ∧ A.length ≤ 40 ∧
  Hid (Side w w' [ownT 5 rv (ub (Sc.ringed n at_ first (A.map pdsOf))), ownT 3 bv (intV (begs (fun x => (at_ + x) % n) first A)), wideT 2 33 tv (txA first A)])

set_option maxHeartbeats 4000000 in
set_option maxRecDepth 100000 in
theorem ringOf_any (z tl sq : Nat) (v : Value) (ds : List PlD) (w : World) (hz : z ≤ 255) (ht : tl ≤ 255) (hsq : sq ≤ 65535) (h : Pls w v ds) :
    Calls Try.prog 15 #[.int .u8 (z : Int), .int .u8 (tl : Int), .int .u16 (sq : Int), v] w (RingGives w (z % 60 + 5) (tl % (z % 60 + 5)) (sq + 1) ds) := by
  obtain ⟨ao, vc, rfl⟩ := h.slice
  have big := h.len
  have HP : Hid (∀ w', Chg [] w w' → Pls w' (.slice ao ds.length vc) ds) := fun w' c => h.chg c
  obtain ⟨N, hN⟩ : ∃ N, N = ds.length := ⟨_, rfl⟩
  rw [← hN] at big HP ⊢
  have HN := Lib.hid hN
  clear h hN
  obtain ⟨n, hn⟩ : ∃ n, n = z % 60 + 5 := ⟨_, rfl⟩
  obtain ⟨at_, hat⟩ : ∃ at_, at_ = tl % n := ⟨_, rfl⟩
  obtain ⟨fi, hfi⟩ : ∃ fi, fi = sq + 1 := ⟨_, rfl⟩
  rw [← hn, ← hat, ← hfi]
  have n1 : 5 ≤ n := by omega
  have n2 : n ≤ 64 := by omega
  have a1 : at_ < n := by rw [hat]; exact Nat.mod_lt _ (by omega)
  have z0 : (0 : Int) ≤ z := Int.natCast_nonneg _
  have z1 : (z : Int) ≤ 255 := by omega
  obtain ⟨z6, hz6⟩ : ∃ z6, z6 = z % 60 := ⟨_, rfl⟩
  have z2 : (z : Int) % 60 = (z6 : Int) := by rw [hz6]; push_cast; rfl
  have z3 : (z6 : Int) + 5 = (n : Int) := by omega
  have z4 : Int.tmod (z : Int) 60 = (z6 : Int) := (Int.tmod_eq_emod_of_nonneg z0).trans z2
  have t0 : (0 : Int) ≤ tl := Int.natCast_nonneg _
  have t1 : (tl : Int) ≤ 255 := by omega
  have t2 : (tl : Int) % n = (at_ : Int) := by rw [hat]; push_cast; rfl
  have t3 : Int.tmod (tl : Int) n = (at_ : Int) := (Int.tmod_eq_emod_of_nonneg t0).trans t2
  have s0 : (0 : Int) ≤ sq := Int.natCast_nonneg _
  have s1 : (sq : Int) ≤ 65535 := by omega
  have s2 : (sq : Int) + 1 = (fi : Int) := by omega
  have s3 : fi ≤ 65536 := by omega
  have n0 : ¬ n = 0 := by omega
  have s4 : 1 ≤ fi := by omega
  clear hz ht hsq hn hat hfi hz6
  go_enter Try.func15, Try.ntmps15
  go_wp2_with fail
  clear z0 z1 z2 z3 z4 t0 t1 t2 t3 s0 s1 s2
  obtain ⟨i0, hi, hz0, hz1, hz2⟩ := info_parts info_int1
  replace hi := Lib.hid hi
  replace hz0 := Lib.hid hz0
  replace hz1 := Lib.hid hz1
  replace hz2 := Lib.hid hz2
  obtain ⟨j0, ji, jz0, jz1, jz2⟩ := info_parts info_rowsl
  replace ji := Lib.hid ji
  replace jz0 := Lib.hid jz0
  replace jz1 := Lib.hid jz1
  replace jz2 := Lib.hid jz2
  obtain ⟨k0, ki, kz0, kz1, kz2⟩ := info_parts info_txn
  replace ki := Lib.hid ki
  replace kz0 := Lib.hid kz0
  replace kz1 := Lib.hid kz1
  replace kz2 := Lib.hid kz2
  obtain ⟨G, hG⟩ : ∃ G : Nat → Nat, G = fun x => (at_ + x) % n := ⟨_, rfl⟩
  have HG : Hid (∀ x, G x = (at_ + x) % n) := fun x => by rw [hG]
  have RG : Hid (∀ rv tv bv A vs W, GoodA n fi ds A vs → A.length ≤ 40 → Side w W [ownT 5 rv (ub (Sc.ringed n at_ fi (A.map pdsOf))), ownT 3 bv (intV (begs G fi A)), wideT 2 33 tv (txA fi A)] → RingGives w n at_ fi ds (.returned (.tuple #[rv, tv, bv])) W) := fun rv tv bv A vs W h1 h2 h3 => ⟨rv, tv, bv, A, vs, rfl, h1, h2, by rw [hG] at h3; exact h3⟩
  clear hG
  have H0 : Hid (Side w w (gathTs (.slice none 0 0) (.slice none 0 0) (.slice none 0 0) G fi [] [])) := by
    have h0 := (Side.nil (Chg.refl [] w)).add (b := wideT 2 33 (.slice none 0 0) []) (Chg.refl _ _) (OwnW.nil _ _ _ _) (fun k hk => by cases hk)
    have h1 := h0.add (b := ownT 3 (.slice none 0 0) []) (Chg.refl _ _) (World.ownsRow_nil _ _ _ _) (fun k hk => by cases hk)
    have h2 := h1.add (b := poolT []) (Chg.refl _ _) (Pool.nil _) (fun k hk => by cases hk)
    exact h2.add (b := wideT 1 23 (.slice none 0 0) []) (Chg.refl _ _) (OwnW.nil _ _ _ _) (fun k hk => by cases hk)
  go_loopw [14, 15, 16, 17] (fun av bv tv i wr => ∃ (k : Nat) (A : List PlD) (vs : List Rw), k ≤ N ∧ k ≤ 40 ∧ A.length ≤ k ∧ i = .int .i64 k ∧ Hid (GoodA n fi ds A vs) ∧ Hid (Side w wr (gathTs av bv tv G fi A vs))) (fun _ _ _ i _ => N - (intOf i).toNat)
  case atStart => exact ⟨0, [], [], Nat.zero_le _, Nat.zero_le _, Nat.le_refl _, rfl, GoodA.nil _ _ _, H0⟩
  case round =>
    obtain ⟨k, A, vs, hk, hk40, hA, rfl, GA, H⟩ := hrel
    clear H0
    have hk0 : (0 : Int) ≤ k := Int.natCast_nonneg _
    obtain ⟨M, hM⟩ : ∃ M, M = vs.length := ⟨_, rfl⟩
    have hMn : M ≤ n := by rw [hM, GA.out.len]; exact GA.out.fits
    have HM := Lib.hid hM
    obtain ⟨m, hm⟩ : ∃ m, m = A.length := ⟨_, rfl⟩
    have HMA := Lib.hid hm
    rw [← hm] at hA
    have O1 := Lib.hid (show OwnW 1 wr 0 23 u14 (rwSlots vs) from H.out.get 0 rfl)
    have O2 := Lib.hid (show wr.ownsRow 0 3 1 u15 (intV (begs G fi A)).length (intV (begs G fi A)) from H.out.get 2 rfl)
    have O3 := Lib.hid (show OwnW 2 wr 0 33 u16 (txA fi A) from H.out.get 3 rfl)
    obtain ⟨ao1, ac1, e1⟩ := O1.out.slice
    obtain ⟨ao2, ac2, e2⟩ := owns_slice O2.out
    obtain ⟨ao3, ac3, e3⟩ := O3.out.slice
    rw [show (rwSlots vs).length = vs.length by simp [rwSlots], ← hM] at e1
    rw [intV_len, begs_len, ← hm] at e2
    rw [txA_len, ← hm] at e3
    subst e1 e2 e3
    clear hM hm O1 O2 O3
    by_cases hlt : k < N ∧ k < 40
    case neg =>
      obtain ⟨b0, bi, bz0, bz1, bz2⟩ := info_parts info_b8
      replace bi := Lib.hid bi
      replace bz0 := Lib.hid bz0
      replace bz1 := Lib.hid bz1
      replace bz2 := Lib.hid bz2
      obtain ⟨BL, hBL⟩ : ∃ BL, BL = 128 * n := ⟨_, rfl⟩
      have e1 : (n : Int) * 128 = (BL : Int) := by omega
      have e2 : BL ≤ 8192 := by omega
      have HBL := Lib.hid hBL
      have C8 : ∀ x ∈ gchain fi A, x.length = 128 ∧ Bs x := Sc.chain_ok GA.out.good
      have LD : Hid (∀ W, Chg [] wr W → W.ownsRow wr.heap.size 5 1 (.slice (some ⟨wr.heap.size, 0, none⟩) BL BL) BL (madeCells (Value.int .u8 0).cells (BL * 1)).toList → Calls Try.prog 11 #[.slice (some ⟨wr.heap.size, 0, none⟩) BL BL, .int .i64 (at_ : Int), .slice ao1 M ac1] W (Lays W (Sc.ringed n at_ fi (A.map pdsOf)))) := fun W c o => by
        rw [made_replicate _ _ rfl, ← noughts_ub] at o
        have RW : Rws wr (.slice ao1 M ac1) (rowDs vs (gchain fi A)) := rows_rws (H.out.get 0 rfl) (H.out.get 1 rfl) GA.out.rows C8 (by have := GA.out.fits; omega)
        have k := laid_any _ _ (Sc.noughts BL) n at_ (rowDs vs (gchain fi A)) (gchain fi A) W (Sl.owned (n := BL) o) (by rw [Sc.noughts_len]; exact HBL.out) (by omega) (by omega) (by omega) (RW.chg c) (rowDs_secs _ _) (fun x hx => (C8 x hx).1) (by have := GA.out.fits; omega)
        rw [HBL.out] at k ⊢
        exact k
      have HE : Hid (∀ W W' rv, Chg [] wr W → W'.ownsRow W.heap.size 5 1 rv (Sc.ringed n at_ fi (A.map pdsOf)).length (ub (Sc.ringed n at_ fi (A.map pdsOf))) → Chg [] W W' → Side w W' [ownT 5 rv (ub (Sc.ringed n at_ fi (A.map pdsOf))), ownT 3 (.slice ao2 m ac2) (intV (begs G fi A)), wideT 2 33 (.slice ao3 m ac3) (txA fi A)]) := fun W W' rv c o c2 =>
        (show Side w W [ownT 3 (.slice ao2 m ac2) (intV (begs G fi A)), wideT 2 33 (.slice ao3 m ac3) (txA fi A)] from (H.out.quiet c).tail.tail).own o c2
      clear H C8 hBL
      rcases Nat.lt_or_ge k N with c | c
      · have c1 : (k : Int) < N := by omega
        have c2 : ¬ (k : Int) < 40 := by omega
        clear hlt c
        go_wp2_with (first
          | (at_make; refine wpList_make_full _ rfl _ _ 23 rfl wr.heap.size 5 b0 (.int .u8 0) 1 Try.underlying23 bi.out bz0.out bz1.out .i64 .i64 _ _ BL rfl rfl rfl rfl (by rw [bz2.out]; omega) (by unfold maxLen; omega) (Nat.le_refl _) ?_; intro wm hown hgrow; have CM : Hid (Chg [] wr wm) := (Chg.refl _ _).grown hgrow (fun k hk => by cases hk); have LA := LD.out wm CM.out hown; clear hown hgrow)
          | (go_at_call 11; refine LA.mono ?_; rintro e w6 ⟨rv, rfl, O6, C6⟩; have HF := HE.out wm w6 rv CM.out O6.out C6.out; clear LA O6))
        go_ret3
        exact RG.out rv _ _ A vs w6 GA.out (by rw [← HMA.out]; omega) HF
      · have c1 : ¬ (k : Int) < N := by omega
        clear hlt c
        go_wp2_with (first
          | (at_make; refine wpList_make_full _ rfl _ _ 23 rfl wr.heap.size 5 b0 (.int .u8 0) 1 Try.underlying23 bi.out bz0.out bz1.out .i64 .i64 _ _ BL rfl rfl rfl rfl (by rw [bz2.out]; omega) (by unfold maxLen; omega) (Nat.le_refl _) ?_; intro wm hown hgrow; have CM : Hid (Chg [] wr wm) := (Chg.refl _ _).grown hgrow (fun k hk => by cases hk); have LA := LD.out wm CM.out hown; clear hown hgrow)
          | (go_at_call 11; refine LA.mono ?_; rintro e w6 ⟨rv, rfl, O6, C6⟩; have HF := HE.out wm w6 rv CM.out O6.out C6.out; clear LA O6))
        go_ret3
        exact RG.out rv _ _ A vs w6 GA.out (by rw [← HMA.out]; omega) HF
    obtain ⟨hkN, hk4⟩ := hlt
    have hk1 : (k : Int) < N := by omega
    have hk2 : (k : Int) < 40 := by omega
    obtain ⟨d, hd⟩ : ∃ d, ds[k]? = some d := ⟨_, List.getElem?_eq_getElem (by rw [← HN.out]; exact hkN)⟩
    have hdm := Lib.hid (List.mem_of_getElem? hd)
    obtain ⟨pb, po, rfl, hpb, I⟩ := (HP.out wr H.out.chg).at hd
    have c0 := I.c0
    have PT : Hid (∀ W, Chg [] w W → Pts W d.v d.ps) := fun W c => by
      obtain ⟨pb', po', h9, _, I'⟩ := (HP.out W c).at hd
      exact I'.pt
    have PU := Lib.hid I.pu
    obtain ⟨xo, xc, hxv⟩ := I.pt.slice
    obtain ⟨D, hD⟩ : ∃ D, D = d.ps.length := ⟨_, rfl⟩
    rw [← hD] at hxv
    rw [hxv] at c0 PT
    have HX := Lib.hid hxv
    have MU : Hid (∀ W, Chg [] w W → Calls Try.prog 9 #[.slice xo D xc] W fun e w'' => TellsB e ∧ Hid (Chg [] W w'')) := fun W c => much_any _ d.ps W (PT.out W c)
    have CC : Hid (∀ W, Chg [] wr W → W.cell? ⟨pb, po + k, none⟩ = some (.slice xo D xc)) := fun W c => by
      have := (I.chg hpb c).c0
      rw [hxv] at this
      exact this
    clear hd I hxv hD hpb
    go_wp2_with fail
    refine (MU.out _ H.out.chg).mono ?_
    rintro e w2 ⟨⟨b, rfl⟩, C2⟩
    have H2 := Lib.hid (H.out.quiet C2.out)
    clear H MU
    cases b
    case true =>
      go_wp2_with fail
      exact ⟨⟨k + 1, A, vs, by omega, by omega, by rw [← HMA.out]; omega, by go_num, GA, H2⟩, by simp [intOf]; omega⟩
    have c2 := CC.out w2 C2.out
    clear c0
    obtain ⟨q, hq⟩ : ∃ q, q = fi + m := ⟨_, rfl⟩
    have q1 : (fi : Int) + m = (q : Int) := by omega
    have q2 : q ≤ 65576 := by omega
    have q3 : 1 ≤ q := by omega
    have W1 : IntKind.u64.wrap (m : Int) = (m : Int) := IntWalk.u64_in _ (by omega)
    have W2 : IntKind.u64.wrap (q : Int) = (q : Int) := IntWalk.u64_in _ (by omega)
    have HQ := Lib.hid hq
    clear hq
    go_wp2_with fail
    clear W1 W2
    have H3 := Lib.hid (H2.out.box [.int .u64 (q : Int), .slice xo D xc] 33)
    obtain ⟨w3, hw3⟩ : ∃ w3, w3 = w2.alloc (.cells #[.int .u64 (q : Int), .slice xo D xc] 33) := ⟨_, rfl⟩
    rw [← hw3] at H3 ⊢
    obtain ⟨tb, htb⟩ : ∃ tb, tb = w2.heap.size := ⟨_, rfl⟩
    rw [← htb] at H3 ⊢
    clear hw3 htb c2 H2
    by_cases h0 : scErr 9 q d.ps = 0
    case neg =>
      have k9 := sectors_no 9 q _ d.ps w3 (PT.out w3 H3.out.chg) h0
      obtain ⟨E, hE⟩ : ∃ E, E = scErr 9 q d.ps := ⟨_, rfl⟩
      rw [← hE] at k9 h0
      have ht : (E == 0) = false := by simpa using h0
      refine Calls.mono (show Calls Try.prog 10 #[.int .u64 9, .agg #[.int .u64 (q : Int), .slice xo D xc]] w3 _ from k9) ?_
      rintro e w4 ⟨rfl, C4⟩
      have H4 := Lib.hid (H3.out.tail.quiet C4.out)
      clear k9 hE h0 H3
      go_wp2_with fail
      exact ⟨⟨k + 1, A, vs, by omega, by omega, by rw [← HMA.out]; omega, by go_num, GA, H4⟩, by simp [intOf]; omega⟩
    have k9 := sectors_ok 9 q _ d.ps w3 (PT.out w3 H3.out.chg) (fun p hp => ⟨(PU.out p hp).1, (PU.out p hp).2⟩) h0
    obtain ⟨_, GD, PD⟩ := scErr_zero h0 (fun p hp => (PU.out p hp).1)
    replace GD := Lib.hid GD
    replace PD := Lib.hid PD
    refine Calls.mono (show Calls Try.prog 10 #[.int .u64 9, .agg #[.int .u64 (q : Int), .slice xo D xc]] w3 _ from k9) ?_
    rintro e w4 ⟨lv, vs2, rfl, VS2, HS⟩
    have H4 := Lib.hid (H3.out.stack HS.out)
    have L2 := rows_len VS2.out
    rw [Sc.secs_len] at L2
    obtain ⟨g5, x5, hlv⟩ := rows_lv (show OwnW 1 w4 0 23 lv (rwSlots vs2) from H4.out.get 0 rfl) (by omega)
    obtain ⟨M2, hM2⟩ : ∃ M2, M2 = vs2.length := ⟨_, rfl⟩
    rw [← hM2] at hlv
    subst hlv
    have HM2 := Lib.hid hM2
    have b1 : M2 ≤ 2047 := by have := GD.out.2.1; omega
    obtain ⟨MM, hMM⟩ : ∃ MM, MM = M + M2 := ⟨_, rfl⟩
    have b2 : (M : Int) + M2 = (MM : Int) := by omega
    have HMM := Lib.hid hMM
    clear k9 h0 hM2 hMM L2 HS H3
    by_cases hfit : MM ≤ n
    case neg =>
      have b3 : ¬ (MM : Int) ≤ n := by omega
      have H5 : Hid (Side w w4 (gathTs (.slice ao1 M ac1) (.slice ao2 m ac2) (.slice ao3 m ac3) G fi A vs)) := H4.out.tail.tail.tail
      clear H4
      go_wp2_with fail
      exact ⟨⟨k + 1, A, vs, by omega, by omega, by rw [← HMA.out]; omega, by go_num, GA, H5⟩, by simp [intOf]; omega⟩
    have b3 : (MM : Int) ≤ n := by omega
    obtain ⟨X, hX⟩ : ∃ X, X = at_ + M := ⟨_, rfl⟩
    obtain ⟨B, hB⟩ : ∃ B, B = X % n := ⟨_, rfl⟩
    have d1 : (at_ : Int) + M = (X : Int) := by omega
    have d2 : (X : Int) % n = (B : Int) := by rw [hB]; push_cast; rfl
    have d3 : Int.tmod (X : Int) n = (B : Int) := (Int.tmod_eq_emod_of_nonneg (by omega)).trans d2
    have HB : Hid (B = G (gchain fi A).length) := by show B = _; rw [HG.out, hB, hX, HM.out, GA.out.len]
    have OB : Hid (w4.ownsRow 0 3 1 (.slice ao2 m ac2) m (intV (begs G fi A))) := by
      have h := (show w4.ownsRow 0 3 1 (.slice ao2 m ac2) (intV (begs G fi A)).length (intV (begs G fi A)) from H4.out.get 5 rfl)
      rw [intV_len, begs_len, ← HMA.out] at h
      exact h
    have X1 : X ≤ 200 := by omega
    have LN2 : Hid ((vs2.map (·.1)).length = M2 * 1) := by show _ = _; rw [List.length_map, ← HM2.out, Nat.mul_one]
    have L1 : Hid (m + 1 ≤ maxLen) := by show _ ≤ _; unfold maxLen; omega
    have L2 : Hid ((m + 1) * 8 ≤ 140737488355328) := by show _ ≤ _; omega
    have L3 : Hid (M + M2 ≤ maxLen) := by show _ ≤ _; unfold maxLen; omega
    have L4 : Hid ((M + M2) * 24 ≤ 140737488355328) := by show _ ≤ _; omega
    have L5 : Hid ((m + 1) * 32 ≤ 140737488355328) := by show _ ≤ _; omega
    have F1 : Hid (k + 1 ≤ N) := hkN
    have F2 : Hid (k + 1 ≤ 40) := hk4
    have F3 : Hid ((A ++ [d]).length ≤ k + 1) := by show _ ≤ _; rw [List.length_append, List.length_singleton, ← HMA.out]; omega
    have F4 : Hid (N - (k + 1) < N - k) := by show _ < _; omega
    have F5 : Hid (GoodA n fi ds (A ++ [d]) (vs ++ vs2)) := GA.out.snoc hdm.out GD.out PD.out (by rw [← HMA.out, ← HQ.out]; exact VS2.out) (by rw [← GA.out.len, ← HM.out, ← HM2.out, ← HMM.out]; exact hfit)
    have HXV := HX
    clear hX hB hfit hkN hk4 hA GA GD PD
    go_wp2_with (first
      | ((with_reducible refine wpList_append_three _ rfl (.tmp 73) (.tmp 80) 28 rfl 0 3 i0 (.int .i64 0) 1 8 Try.underlying28 hi.out hz0.out hz1.out hz2.out rfl (by decide) _ m _ rfl (OB.out.alloc _) ⟨w4.heap.size, 0, none⟩ 1 1 [.int .i64 (B : Int)] rfl rfl (new_cell _ _ _) (by simp [Value.oneCell']) L1.out L2.out (Nat.zero_le _) ?_); intro bv' w5 ol gr nb; have H5 := gath_beg H4 ol gr nb; have OA : Hid (w5.ownsRow 0 23 1 (.slice ao1 M ac1) M (vs.map (·.1))) := (rows_own (H5.out.get 2 rfl) HM.out.symm); have CL : Hid (∀ j u, (vs2.map (·.1))[j]? = some u → w5.cell? ((⟨g5, 0, none⟩ : Addr).add j) = some u) := (rows_cells (H5.out.get 0 rfl) HM2.out); have ONE := Lib.hid (rows_slices H5.out 1 rfl); clear ol gr nb H4 OB)
      | ((at_builtin; refine wpList_append_three _ rfl (.tmp 82) (.tmp 83) 27 rfl 0 23 j0 (.slice none 0 0) 1 24 Try.underlying27 ji.out jz0.out jz1.out jz2.out rfl (by decide) _ M _ rfl OA.out ⟨g5, 0, none⟩ M2 x5 (vs2.map (·.1)) rfl LN2.out CL.out ONE.out L3.out L4.out (Nat.zero_le _) ?_); intro av' w6 ol gr nb; have H6 := gath_rows H5 (n := M + M2) (by rw [HM.out, HM2.out]) ol gr nb; have OT : Hid (w6.ownsRow 0 33 2 (.slice ao3 m ac3) m (txA fi A).flatten) := (by have h := (show OwnW 2 w6 0 33 (.slice ao3 m ac3) (txA fi A) from H6.out.get 4 rfl).2; rw [txA_len, ← HMA.out] at h; exact h); have u0 := (show Blk w6 tb 33 [.int .u64 (q : Int), .slice xo D xc] from H6.out.get 2 rfl).cell (j := 0) rfl; have u1 := (show Blk w6 tb 33 [.int .u64 (q : Int), .slice xo D xc] from H6.out.get 2 rfl).cell (j := 1) rfl; clear ol gr nb H5 OA CL ONE)
      | ((with_reducible refine wpList_append_three _ rfl (.tmp 85) (.tmp 87) 29 rfl 0 33 k0 (.agg #[.int .u64 0, .slice none 0 0]) 2 32 Try.underlying29 ki.out kz0.out kz1.out kz2.out rfl (by decide) _ m _ rfl (OT.out.alloc _) ⟨w6.heap.size, 0, none⟩ 1 1 [.int .u64 (q : Int), .slice xo D xc] rfl rfl (two_new _ _ _ _) (by simp [Value.oneCell']) L1.out L5.out (Nat.zero_le _) ?_); intro tv' w7 ol gr nb; have H7 := gath_txn (d := d) H6 HMA.out HQ.out HB.out (by rw [HX.out]; exact ol) gr nb; clear ol gr nb H6 OT u0 u1))
    exact ⟨⟨k + 1, A ++ [d], vs ++ vs2, F1.out, F2.out, F3.out, by go_num, F5, H7⟩, by simp [intOf]; exact F4.out⟩

end Go.Proofs.Ytnkdgmnmmmjgjaa
