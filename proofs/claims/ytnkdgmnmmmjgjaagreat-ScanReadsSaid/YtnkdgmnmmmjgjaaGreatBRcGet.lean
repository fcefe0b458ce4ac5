/-
  The document's reading of a number within bytes. By an AI agent.
-/
import Derived.Test.YtnkdgmnmmmjgjaaGreatBRcPut
import Derived.Laws.BytesArg
namespace Go.Proofs.YtnkdgmnmmmjgjaaGreat
open Go.RowKit Crc

theorem or_next (n b : Nat) (hn : n < 72057594037927936) (hb : b < 256) : bits .or .u64 ((n : Int) * 256) (b : Int) = ((b + 256 * n : Nat) : Int) := by
  rw [show ((n : Int) * 256) = ((n * 256 : Nat) : Int) by omega, u64_or_nat (n * 256) b (by omega) (by omega)]
  congr 1
  rw [show n * 256 = 2 ^ 8 * n by omega, ← Nat.two_pow_add_eq_or_of_lt (show b < 2 ^ 8 from hb)]
  omega

theorem rd_step {xs : List Nat} {at_ q k b : Nat} (hq : q < k) (hb : xs[at_ + q]? = some b) : rd xs (at_ + q) (k - q) = b + 256 * rd xs (at_ + (q + 1)) (k - (q + 1)) := by
  have hl : at_ + q < xs.length := (List.getElem?_eq_some_iff.1 hb).1
  have he : xs[at_ + q] = b := (List.getElem?_eq_some_iff.1 hb).2
  unfold rd
  rw [List.drop_eq_getElem_cons hl, he, show k - q = (k - (q + 1)) + 1 by omega, List.take_succ_cons, val]
  rfl

set_option maxHeartbeats 2000000 in
set_option maxRecDepth 100000 in
theorem rget_any (v : Value) (xs : List Int) (at_ k : Nat) (w : World) (h : Sl w v xs) (hby : By xs) (hk : k ≤ 8) (hat : at_ + k ≤ xs.length) (hx : xs.length ≤ 1000000) :
    Calls Tryz.prog 101 #[v, .int .i64 at_, .int .i64 k] w fun e w' => e = .returned (.int .u64 (rd (nats xs) at_ k : Nat)) ∧ Hid (Chg [] w w') := by
  obtain ⟨ao, c, rfl⟩ := h.slice
  have H := Lib.hid h
  have BY := Lib.hid hby
  clear h hby
  have hk0 : (0 : Int) ≤ k := Int.natCast_nonneg _
  have ha0 : (0 : Int) ≤ at_ := Int.natCast_nonneg _
  have Z0 : Hid (rd (nats xs) (at_ + k) (k - k) = 0) := by
    show _ = _
    rw [Nat.sub_self]
    simp [rd, val]
  go_enter Tryz.func101, Tryz.ntmps101
  go_wp2_with fail
  go_loopw [7, 8] (fun n i wr => ∃ q : Nat, q ≤ k ∧ i = .int .i64 ((q : Int) - 1) ∧ n = .int .u64 ((rd (nats xs) (at_ + q) (k - q) : Nat) : Int) ∧ Hid (Chg [] w wr)) (fun _ i _ => (intOf i + 1).toNat)
  case atStart => exact ⟨k, Nat.le_refl _, rfl, by rw [Z0.out]; rfl, Chg.refl _ _⟩
  case round =>
    obtain ⟨q, hq, rfl, rfl, C⟩ := hrel
    clear Z0
    rcases q with _ | m
    · go_wp2_with fail
      go_ret
      refine ⟨?_, C⟩
      rfl
    · obtain ⟨b, hb⟩ : ∃ b, (nats xs)[at_ + m]? = some b := ⟨_, List.getElem?_eq_getElem (by rw [nats_length]; omega)⟩
      have hx0 : xs[at_ + m]? = some (b : Int) := by
        have e := ints_nats BY.out
        rw [← e, ints, List.getElem?_map, hb]
        rfl
      have hbl : b < 256 := nats_bs BY.out _ (List.mem_of_getElem? hb)
      have ST := Lib.hid (rd_step (k := k) (show m < k by omega) hb)
      have hnl : rd (nats xs) (at_ + (m + 1)) (k - (m + 1)) < 72057594037927936 := by
        refine Nat.lt_of_lt_of_le (rd_lt (nats_bs BY.out) _ _) ?_
        exact Nat.le_trans (Nat.pow_le_pow_right (by decide) (show k - (m + 1) ≤ 7 by omega)) (by decide)
      generalize rd (nats xs) (at_ + (m + 1)) (k - (m + 1)) = n at *
      have OR := or_next n b hnl hbl
      have hn0 : (0 : Int) ≤ n := Int.natCast_nonneg _
      have hn1 : (n : Int) < 72057594037927936 := by omega
      have hb0 : (0 : Int) ≤ b := Int.natCast_nonneg _
      have hb1 : (b : Int) ≤ 255 := by omega
      have L : ∃ g o, ao = some ⟨g, o, none⟩ ∧ wr.cell? ⟨g, o + (at_ + m), none⟩ = some (.int .u8 (b : Int)) := by
        rcases H.out.chg C.out (by simp) with ⟨h0, _⟩ | ⟨g, o, c', hv, hbk, hc⟩
        · rw [h0] at hx0; simp at hx0
        · obtain ⟨rfl, rfl⟩ : ao = some ⟨g, o, none⟩ ∧ c = c' := by simpa using hv
          have h1 := hc (at_ + m) (List.getElem?_eq_some_iff.1 hx0).1
          refine ⟨g, o, rfl, ?_⟩
          rw [h1]
          simp [List.getD, hx0]
      obtain ⟨g, o, rfl, hcell⟩ := L
      have hm0 : (0 : Int) ≤ m := Int.natCast_nonneg _
      have hm1 : ((m + 1 : Nat) : Int) - 1 = m := by omega
      obtain ⟨p, hp⟩ : ∃ p, p = at_ + m := ⟨_, rfl⟩
      rw [← hp] at hcell
      have hm2 : (p : Int) < xs.length := by omega
      have hp0 : (0 : Int) ≤ p := Int.natCast_nonneg _
      have hat2 : (at_ : Int) + m = (p : Int) := by omega
      have hp1 : p < xs.length := by omega
      replace hp := Lib.hid hp
      replace hb := Lib.hid hb
      replace hx0 := Lib.hid hx0
      rw [hm1]
      replace hm1 := Lib.hid hm1
      go_wp2_with fail
      exact ⟨⟨m, by omega, rfl, by rw [ST.out, Int.natCast_add, Int.natCast_mul]; rfl, C⟩, by simp only [intOf]; omega⟩

end Go.Proofs.YtnkdgmnmmmjgjaaGreat

/-
  The document's Kind of a record. By an AI agent.
-/
namespace Go.Proofs.YtnkdgmnmmmjgjaaGreat
open Crc Go.RowKit

set_option maxHeartbeats 2000000 in
set_option maxRecDepth 100000 in
theorem rkind_any (v : Value) (b : List Nat) (w : World) (h : Sl w v (ints b)) (hbs : Bs b) (hcap : ∀ ao n c, v = .slice ao n c → n ≤ c) :
    Calls Tryz.prog 110 #[v] w fun e w' => e = .returned (.int .u8 (kindOf b : Nat)) ∧ w = w' := by
  by_cases hl : b.length = 128
  case neg =>
    have d : kindOf b = 0 := by unfold kindOf; rw [if_neg (fun k => hl k.1)]
    rw [d]
    obtain ⟨ao, c, rfl⟩ := h.slice
    rw [ints_length]
    have d2 : ¬ (b.length : Int) = 128 := by omega
    have d3 : ((b.length : Int) == 128) = false := by simpa using d2
    clear h d
    go_enter Tryz.func110, Tryz.ntmps110
    go_wp2_with fail
    go_ret
    exact ⟨by first | rfl | simp, rfl⟩
  rcases h with ⟨h0, _⟩ | ⟨g, o, c, rfl, lb, hc⟩
  · have := congrArg List.length h0; rw [ints_length, hl] at this; cases this
  have hcp := hcap _ _ _ rfl
  rw [ints_length, hl] at hcp hc ⊢
  have hcp4 : 4 ≤ c := by omega
  have q1 : (convert 55 9 (.slice (some ⟨g, o, none⟩) 4 c)).run Tryz.prog w = .ok (.string (strOfNums (ints (b.take 4)))) w :=
    run_convert_bytes_arg w 55 5 Tryz.underlying55 Tryz.underlying5 g o 4 c (ints (b.take 4)) (by rw [ints_length, List.length_take]; omega) (fun i hi => by
      rw [hc i (by omega), ints_get, ints_get]
      congr 3
      simp [List.getD, List.getElem?_take, hi]) 9 Tryz.underlying9
  have e4 : w.cell? ⟨g, o + 4, none⟩ = some (.int .u8 ((b.getD 4 0 : Nat) : Int)) := by rw [hc 4 (by omega), ints_get]
  have hx : b.getD 4 0 < 256 := by
    rw [show b.getD 4 0 = b[4]'(by omega) from by simp [List.getD, List.getElem?_eq_getElem (show 4 < b.length by omega)]]
    exact hbs _ (List.getElem_mem _)
  have KD : kindOf b = if b.take 4 = magicB ∧ 1 ≤ b.getD 4 0 ∧ b.getD 4 0 ≤ 3 then b.getD 4 0 else 0 := by
    unfold kindOf
    simp only [hl, true_and]
  rw [KD]
  clear KD hcap
  generalize b.getD 4 0 = x at *
  have hx0 : (0 : Int) ≤ x := Int.natCast_nonneg _
  have hM : strOfNums (ints magicB) = ⟨#[83, 80, 74, 76]⟩ := by kernel_rfl
  by_cases hm : b.take 4 = magicB
  case neg =>
    have hM2 : (strOfNums (ints magicB)).toList = [83, 80, 74, 76] := by rw [ByteArray.toList_eq, strOfNums_data]; rfl
    have d : ¬ (strOfNums (ints (b.take 4))).toList = [83, 80, 74, 76] := fun k => hm (strOfNums_inj (fun y hy => hbs y (List.mem_of_mem_take hy)) (by unfold Bs magicB; decide) (k.trans hM2.symm))
    rw [if_neg (fun k => hm k.1)]
    generalize strOfNums (ints (b.take 4)) = S at *
    clear hm hM hM2 hc hbs
    go_enter Tryz.func110, Tryz.ntmps110
    go_wp2_with fail
    go_ret
    exact ⟨by first | rfl | simp, rfl⟩
  rw [hm, hM] at q1
  clear hM hc hbs
  by_cases h1 : 1 ≤ x
  case neg =>
    rw [if_neg (fun k => h1 k.2.1)]
    have k1 : (x : Int) < 1 := by omega
    go_enter Tryz.func110, Tryz.ntmps110
    go_wp2_with fail
    go_ret
    exact ⟨by first | rfl | simp, rfl⟩
  have k1 : ¬ (x : Int) < 1 := by omega
  by_cases h3 : x ≤ 3
  case neg =>
    rw [if_neg (fun k => h3 k.2.2)]
    have k3 : (3 : Int) < x := by omega
    go_enter Tryz.func110, Tryz.ntmps110
    go_wp2_with fail
    go_ret
    exact ⟨by first | rfl | simp, rfl⟩
  rw [if_pos ⟨hm, h1, h3⟩]
  have k3 : ¬ (3 : Int) < x := by omega
  go_enter Tryz.func110, Tryz.ntmps110
  go_wp2_with fail
  go_ret
  exact ⟨by first | rfl | simp, rfl⟩

set_option maxHeartbeats 2000000 in
set_option maxRecDepth 100000 in
theorem rlooks_any (v : Value) (b : List Nat) (k : Nat) (w : World) (hk : k ≤ 3) (h : Sl w v (ints b)) (hbs : Bs b) (hcap : ∀ ao n c, v = .slice ao n c → n ≤ c) :
    Calls Tryz.prog 100 #[v, .int .u8 k] w fun e w' => e = .returned (.int .i64 (lookOf k b)) ∧ Hid (Chg [] w w') := by
  have KI := Lib.hid (rkind_any v b w h hbs hcap)
  have hkk := kindOf_le b
  by_cases hl : b.length = 128
  case neg =>
    have d : lookOf k b = 4 := by unfold lookOf; rw [if_pos hl]
    rw [d]
    clear d KI
    obtain ⟨ao, c, rfl⟩ := h.slice
    rw [ints_length]
    have d2 : ¬ (b.length : Int) = 128 := by omega
    have d3 : ((b.length : Int) == 128) = false := by simpa using d2
    clear h
    go_enter Tryz.func100, Tryz.ntmps100
    go_wp2_with fail
    go_ret
    exact ⟨by first | rfl | simp, Chg.refl _ _⟩
  have LK : lookOf k b = if kindOf b ≠ k then 80 else if rd b 124 4 ≠ sum (b.take 124) then 81 else 0 := by unfold lookOf; rw [if_neg (by omega)]
  rw [LK]
  clear LK
  obtain ⟨ao, c, rfl⟩ := h.slice
  have hcp := hcap _ _ _ rfl
  have SP : Hid (Sl w (.slice ao 124 c) (ints (b.take 124))) := by
    have h1 := Sl.pre (n := (ints b).length) (c := c) h 124 (by rw [ints_length]; omega)
    rw [show (ints b).take 124 = ints (b.take 124) from by simp [ints]] at h1
    exact h1
  have hb4 : Bs (b.take 124) := fun x hx => hbs x (List.mem_of_mem_take hx)
  have SM := Lib.hid (refSum_any (.slice ao 124 c) (ints (b.take 124)) w SP.out (ints_by hb4) (by rw [ints_length, List.length_take]; omega))
  have GT := Lib.hid (rget_any (.slice ao (ints b).length c) (ints b) 124 4 w h (ints_by hbs) (by decide) (by rw [ints_length]; omega) (by rw [ints_length]; omega))
  rw [nats_ints] at SM GT
  have hsm : sum (b.take 124) < 4294967296 := more_lt (by decide) hb4
  have hrd : rd b 124 4 < 4294967296 := rd_lt hbs 124 4
  rw [ints_length, hl] at KI GT hcp ⊢
  generalize sum (b.take 124) = sm at *
  generalize rd b 124 4 = gt at *
  generalize kindOf b = kd at *
  have hcp4 : 124 ≤ c := by omega
  have s0 : (0 : Int) ≤ sm := Int.natCast_nonneg _
  have s1 : (sm : Int) < 4294967296 := by omega
  clear h hcap SP hb4
  by_cases c1 : kd = k
  case neg =>
    rw [if_pos c1]
    have d : ¬ (kd : Int) = k := by omega
    have kd0 : (0 : Int) ≤ kd ∧ (kd : Int) ≤ 3 := by omega
    have k0 : (0 : Int) ≤ k ∧ (k : Int) ≤ 3 := by omega
    clear c1 SM GT hsm hrd s0 s1
    go_enter Tryz.func100, Tryz.ntmps100
    go_wp2_with fail
    refine KI.out.mono ?_
    rintro e w1 ⟨rfl, rfl⟩
    go_wp2_with fail
    go_ret
    exact ⟨by first | rfl | simp, Chg.refl _ _⟩
  subst c1
  rw [if_neg (by simp)]
  by_cases c2 : gt = sm
  case pos =>
    subst c2
    rw [if_neg (by simp)]
    go_enter Tryz.func100, Tryz.ntmps100
    go_wp2_with fail
    refine KI.out.mono ?_
    rintro e w1 ⟨rfl, rfl⟩
    go_wp2_with fail
    refine SM.out.mono ?_
    rintro e w1 ⟨rfl, rfl⟩
    go_wp2_with fail
    refine GT.out.mono ?_
    rintro e w2 ⟨rfl, C⟩
    clear KI SM GT
    go_wp2_with fail
    go_ret
    exact ⟨by first | rfl | simp, C⟩
  case neg =>
    rw [if_pos c2]
    have d : ¬ (gt : Int) = sm := by omega
    clear c2
    go_enter Tryz.func100, Tryz.ntmps100
    go_wp2_with fail
    refine KI.out.mono ?_
    rintro e w1 ⟨rfl, rfl⟩
    go_wp2_with fail
    refine SM.out.mono ?_
    rintro e w1 ⟨rfl, rfl⟩
    go_wp2_with fail
    refine GT.out.mono ?_
    rintro e w2 ⟨rfl, C⟩
    have hw : IntKind.u64.wrap (sm : Int) = sm := IntWalk.u64_in _ ⟨s0, by omega⟩
    have d3 : ((gt : Int) != (sm : Int)) = true := by simpa using d
    clear KI SM GT hsm hrd hkk hk s0 s1 d
    go_wp2_with fail
    go_ret
    exact ⟨by first | rfl | simp, C⟩

end Go.Proofs.YtnkdgmnmmmjgjaaGreat

/-
  The document's Encode of a checkpoint. By an AI agent.
-/
namespace Go.Proofs.YtnkdgmnmmmjgjaaGreat
open Go.RowKit Crc

set_option maxHeartbeats 8000000 in
set_option maxRecDepth 100000 in
theorem rEncodeCheck_any (h : Ck) (w : World) (hsm : True) : Calls Tryz.prog 51 #[h.val] w (RcEncs w h.enc h.err) := by
  unfold RcEncs Ck.val
  have NU := Lib.hid (fun W => rnumbers_any h.ep h.sq W)
  have C1 : Hid (Chg [] w (w.alloc (.cells #[.int .u64 (h.ep : Int), .int .u64 (h.sq : Int), .int .i64 h.tl] 57))) := (Chg.refl _ w).alloc _
  have B1 : Hid (Blk (w.alloc (.cells #[.int .u64 (h.ep : Int), .int .u64 (h.sq : Int), .int .i64 h.tl] 57)) w.heap.size 57 [.int .u64 (h.ep : Int), .int .u64 (h.sq : Int), .int .i64 h.tl]) := Blk.made w _ _
  by_cases k0 : numsOk h.ep h.sq
  case neg =>
    rw [decide_eq_false k0] at NU
    have no : ¬ h.Ok := fun h => k0 h.1
    have er : h.err = 80 := by unfold Ck.err; rw [if_neg no]
    have en : h.enc = [] := by unfold Ck.enc; rw [if_neg no]
    rw [er, en]
    clear no er en
    go_enter Tryz.func51, Tryz.ntmps51
    go_wp2_with fail
    refine (NU.out _).mono ?_
    rintro e w1 ⟨rfl, rfl⟩
    go_wp2_with fail
    go_ret2
    exact ⟨_, rfl, World.ownsRow_nil _ _ _ _, C1.out⟩
  rw [decide_eq_true k0] at NU
  by_cases k1 : 0 ≤ h.tl
  case neg =>
    have no : ¬ h.Ok := fun h => k1 h.2.1
    have er : h.err = 80 := by unfold Ck.err; rw [if_neg no]
    have en : h.enc = [] := by unfold Ck.enc; rw [if_neg no]
    rw [er, en]
    clear no er en
    go_enter Tryz.func51, Tryz.ntmps51
    go_wp2_with fail
    refine (NU.out _).mono ?_
    rintro e w1 ⟨rfl, rfl⟩
    go_wp2_with fail
    go_ret2
    exact ⟨_, rfl, World.ownsRow_nil _ _ _ _, C1.out⟩
  by_cases k2 : h.tl ≤ 2047
  case neg =>
    have no : ¬ h.Ok := fun h => k2 h.2.2
    have er : h.err = 80 := by unfold Ck.err; rw [if_neg no]
    have en : h.enc = [] := by unfold Ck.enc; rw [if_neg no]
    rw [er, en]
    clear no er en
    go_enter Tryz.func51, Tryz.ntmps51
    go_wp2_with fail
    refine (NU.out _).mono ?_
    rintro e w1 ⟨rfl, rfl⟩
    go_wp2_with fail
    go_ret2
    exact ⟨_, rfl, World.ownsRow_nil _ _ _ _, C1.out⟩
  have yes : h.Ok := ⟨k0, k1, k2⟩
  have er : h.err = 0 := by unfold Ck.err; rw [if_pos yes]
  have en : h.enc = h.rec'.sector := by unfold Ck.enc; rw [if_pos yes]
  rw [er, en]
  clear er en yes
  obtain ⟨t, ht⟩ := Int.eq_ofNat_of_zero_le (show 0 ≤ h.tl by omega)
  have bt : t < 4294967296 := by omega
  replace ht := Lib.hid ht
  have fe : h.ep < 18446744073709551616 := by have := k0.1; omega
  have fs : h.sq < 18446744073709551616 := by have := k0.2.2; omega
  have s1 : (w.alloc (.cells #[.int .u64 (h.ep : Int), .int .u64 (h.sq : Int), .int .i64 h.tl] 57)).heap.size = w.heap.size + 1 := by simp
  clear k0
  go_enter Tryz.func51, Tryz.ntmps51
  go_wp2_with fail
  refine (NU.out _).mono ?_
  rintro e w1 ⟨rfl, rfl⟩
  clear NU
  go_wp2_with fail
  refine (rbegun_any 3 h.ep h.sq _ (by decide) fe fs).mono ?_
  obtain ⟨W0, hW0⟩ : ∃ W0, W0 = (w.alloc (.cells #[.int .u64 (h.ep : Int), .int .u64 (h.sq : Int), .int .i64 h.tl] 57)) := ⟨_, rfl⟩
  rw [← hW0] at C1 B1 s1 ⊢
  clear hW0
  rintro e W1 ⟨v1, rfl, X⟩
  obtain ⟨base, hbase⟩ : ∃ b, b = W0.heap.size := ⟨_, rfl⟩
  rw [← hbase] at X
  have hb0 : base ≤ W0.heap.size := Nat.le_of_eq hbase
  replace hbase := Lib.hid hbase
  have E := Lib.hid X.out
  clear X k1 k2
  have c2 := (B1.out.chg (show Chg [] W0 W1 from E.out.chg) (by simp)).cell (j := 2) rfl
  rw [ht.out] at c2
  go_wp2_with fail
  have hz : base ≤ W1.heap.size := Nat.le_trans hb0 E.out.chg.size
  refine (rput_any base _ _ t 4 W1 hz E.out.own (by decide) (by omega) (by simp [low_length, magicB])).mono ?_
  rintro e W2 ⟨v2, rfl, X⟩
  replace E := Lib.hid (E.out.trans X.out)
  clear X hz c2
  have HY : magicB ++ low 4 3 ++ low 8 h.ep ++ low 8 h.sq ++ low 4 t = h.rec'.begun ++ Rec.tail h.rec'.fs := by
    unfold Ck.rec'
    rw [ht.out]
    simp [Rec.begun, Rec.tail, magicB]
  have HB := Lib.hid (rec_body HY)
  have HS := rec_bs HY
  have hyl : (magicB ++ low 4 3 ++ low 8 h.ep ++ low 8 h.sq ++ low 4 t).length ≤ 124 := by simp [low_length, magicB]
  clear HY
  go_wp2_with fail
  have hz : base ≤ W2.heap.size := Nat.le_trans hb0 E.out.chg.size
  refine (rended_any base _ _ W2 hz E.out.own hyl HS).mono ?_
  rintro e W9 ⟨v9, rfl, X⟩
  have Z := Lib.hid (E.out.trans X.out)
  clear X E hyl HS
  go_wp2_with fail
  go_ret2
  refine ⟨v9, rfl, ?_, C1.out.trans (show Chg [] W0 W9 from Z.out.chg)⟩
  have z := Z.out.own
  rw [HB.out] at z
  show World.ownsRow _ _ _ _ _ _ _
  exact ownsRow_base z (by rw [hbase.out, s1]; exact Nat.le_succ _)

end Go.Proofs.YtnkdgmnmmmjgjaaGreat
