/-
  A poll's refusal and its guide. By an AI agent.
-/
import Derived.Test.YtffpjefecmkfmaaBVtRef
namespace Go.Proofs.Ytffpjefecmkfmaa
open Go.RowKit

/-- A poll's own cells. -/
abbrev pollCs (lv : Value) (C M : Nat) : List Value := [lv, .func (.func 22) #[] #[.pointer (some ⟨C, 0, none⟩)], .func (.func 23) #[] #[.pointer (some ⟨M, 0, none⟩)]]

set_option maxHeartbeats 4000000 in
set_option maxRecDepth 100000 in
theorem refusal_any (ds : List BalD) (lv : Value) (C M : Nat) (w : World) (h : PollIn w ds lv C M) (h0 : 0 < ds.length) :
    Calls Try.prog 16 #[pollV lv C M] w fun e w' => e = .returned (.int .u16 (Vt.refusal ds : Int)) ∧ Hid (Chg [] w w') := by
  obtain ⟨b, o, cp, hlv, hb, hl, hcp, hd⟩ := h.head h0
  obtain ⟨wB, hwB⟩ : ∃ wB, wB = w.alloc (.cells #[lv, .func (.func 22) #[] #[.pointer (some ⟨C, 0, none⟩)], .func (.func 23) #[] #[.pointer (some ⟨M, 0, none⟩)]] 49) := ⟨_, rfl⟩
  have C1 : Hid (Chg [] w wB) := by show Chg [] w wB; rw [hwB]; exact (Chg.refl _ _).alloc _
  have B1 : Blk wB w.heap.size 49 [lv, .func (.func 22) #[] #[.pointer (some ⟨C, 0, none⟩)], .func (.func 23) #[] #[.pointer (some ⟨M, 0, none⟩)]] := by rw [hwB]; exact Blk.made w _ _
  have KK : Hid (∀ W, Chg [] wB W → W.cell? ⟨w.heap.size, 0, none⟩ = some lv ∧ W.cell? ⟨w.heap.size, 1, none⟩ = some (.func (.func 22) #[] #[.pointer (some ⟨C, 0, none⟩)]) ∧ W.cell? ⟨w.heap.size, 2, none⟩ = some (.func (.func 23) #[] #[.pointer (some ⟨M, 0, none⟩)])) := fun W c => ⟨(B1.chg c (by simp)).cell (j := 0) rfl, (B1.chg c (by simp)).cell (j := 1) rfl, (B1.chg c (by simp)).cell (j := 2) rfl⟩
  have hjr : Vt.jr ds < ds.length := by unfold Vt.jr; omega
  have T := h.told
  have MA := Lib.hid (T.ms wB C1.out)
  have AK := Lib.hid (fun (W : World) (c : Chg [] w W) => agree_akin ds lv C M W (h.chg c) h0)
  have JA := Lib.hid (fun (W : World) (c : Chg [] w W) => journal_any ds lv C M W (h.chg c) h0)
  have CA := Lib.hid (fun (W : World) (c : Chg [] w W) => T.cs (Vt.jr ds) hjr W c)
  have OA := Lib.hid (fun (W : World) (c : Chg [] w W) => orphaned_any ds lv C M W (h.chg c) h0)
  obtain ⟨RES, hRES⟩ : ∃ r, Vt.refusal ds = r := ⟨_, rfl⟩
  have RF : Hid ((RES : Int) = if (Vt.most ds : Int) = 0 then 150 else if decide (Vt.Agree ds (Vt.cnt ds) Sup.akin ds.length) = true then (if Vt.cnt ds (Vt.jr ds) = true then 0 else (Vt.orphan ds : Int)) else 151) := by
    show _ = _
    rw [← hRES]
    unfold Vt.refusal
    by_cases q1 : Vt.most ds = 0
    · rw [if_pos q1, if_pos (show (Vt.most ds : Int) = 0 by omega)]; rfl
    · rw [if_neg q1, if_neg (show ¬ (Vt.most ds : Int) = 0 by omega)]
      by_cases q2 : Vt.Agree ds (Vt.cnt ds) Sup.akin ds.length
      · rw [if_pos q2, if_pos (decide_eq_true q2)]
        split <;> rfl
      · rw [if_neg q2, if_neg (by rw [decide_eq_false q2]; decide)]; rfl
  rw [hRES]
  have k0 := (KK.out wB (Chg.refl _ _)).1
  have k1 := (KK.out wB (Chg.refl _ _)).2.1
  have k2 := (KK.out wB (Chg.refl _ _)).2.2
  unfold pollV at *
  generalize decide (Vt.Agree ds (Vt.cnt ds) Sup.akin ds.length) = AR at *
  generalize Vt.cnt ds (Vt.jr ds) = CJ at *
  generalize (Vt.jr ds : Int) = J at *
  generalize (Vt.orphan ds : Int) = OR at *
  generalize (Vt.most ds : Int) = X at *
  generalize (RES : Int) = R at *
  obtain ⟨n, hn⟩ : ∃ n, n = ds.length := ⟨_, rfl⟩
  rw [← hn] at hlv
  replace hwB := Lib.hid hwB
  subst hlv
  clear h h0 hd hn hb hl hRES T B1 hjr hcp
  go_enter Try.func16, Try.ntmps16
  go_wp2_with fail
  rw [← hwB.out]
  clear hwB
  go_wp2_with fail
  refine MA.out.mono ?_
  rintro e w1 ⟨rfl, rfl⟩
  clear MA
  by_cases hx : X = 0
  · have E := RF.out
    rw [if_pos hx] at E
    subst E
    subst hx
    clear RF
    go_wp2_with fail
    go_ret
    exact ⟨rfl, C1⟩
  have RF2 : Hid (R = if AR = true then (if CJ = true then 0 else OR) else 151) := by
    show _ = _
    rw [RF.out, if_neg hx]
  clear RF
  go_wp2_with fail
  refine (AK.out wB C1.out).mono ?_
  rintro e w2 ⟨rfl, C2⟩
  have C2' := Lib.hid (C1.out.trans C2.out)
  clear AK k0 k1 k2
  cases AR with
  | false =>
    have E := RF2.out
    rw [if_neg (by decide)] at E
    subst E
    go_wp2_with fail
    go_ret
    exact ⟨rfl, C2'⟩
  | true =>
  have RF3 : Hid (R = if CJ = true then 0 else OR) := by
    show _ = _
    rw [RF2.out, if_pos rfl]
  clear RF2
  have K2 := KK.out w2 C2.out
  obtain ⟨k0, k1, k2⟩ := K2
  go_wp2_with fail
  have Q0 : Hid (Chg [] wB w2.drew) := C2.out.drewN 1
  go_region_held3 (fun W' : World => W'.cell? ⟨w.heap.size, 0, none⟩ = some (.slice (some ⟨b, o, none⟩) n cp) ∧ W'.cell? ⟨w.heap.size, 1, none⟩ = some (.func (.func 22) #[] #[.pointer (some ⟨C, 0, none⟩)]) ∧ W'.cell? ⟨w.heap.size, 2, none⟩ = some (.func (.func 23) #[] #[.pointer (some ⟨M, 0, none⟩)])) (first | exact KK.out _ Q1.out | exact KK.out _ Q0.out) (first
    | (go_at_call 22; refine (CA.out _ (C1.out.trans Q1.out)).mono ?_; rintro e w4 ⟨rfl, rfl⟩)
    | (go_at_call 26; refine (JA.out _ (C1.out.trans Q0.out)).mono ?_; rintro e w3 ⟨rfl, C3⟩; have Q1 : Hid (Chg [] wB w3) := Q0.out.trans C3.out))
  have C3' := Lib.hid (C1.out.trans Q1.out)
  clear k0 k1 k2 Q0 C2 C2' C3 CA JA
  obtain ⟨k0, k1, k2⟩ := KK.out _ Q1.out
  clear KK
  cases CJ with
  | true =>
    have E := RF3.out
    rw [if_pos rfl] at E
    subst E
    go_wp2_with fail
    go_ret
    exact ⟨rfl, C3'⟩
  | false =>
    have E := RF3.out
    rw [if_neg (by decide)] at E
    subst E
    go_wp2_with fail
    refine (OA.out _ C3'.out).mono ?_
    rintro e w5 ⟨rfl, C5⟩
    have C5' := Lib.hid (C3'.out.trans C5.out)
    clear OA k0 k1 k2 C3' C5
    go_wp2_with fail
    go_ret
    exact ⟨rfl, C5'⟩

set_option maxHeartbeats 4000000 in
set_option maxRecDepth 100000 in
theorem guide_any (ds : List BalD) (lv : Value) (C M : Nat) (w : World) (h : PollIn w ds lv C M) (h0 : 0 < ds.length) (hm : Vt.most ds ≠ 0) :
    Calls Try.prog 28 #[pollV lv C M] w fun e w' => e = .returned (.int .i64 (Vt.guide ds : Int)) ∧ Hid (Chg [] w w') := by
  obtain ⟨b, o, cp, hlv, hb, hl, hcp, hd⟩ := h.head h0
  obtain ⟨wB, hwB⟩ : ∃ wB, wB = w.alloc (.cells #[lv, .func (.func 22) #[] #[.pointer (some ⟨C, 0, none⟩)], .func (.func 23) #[] #[.pointer (some ⟨M, 0, none⟩)]] 49) := ⟨_, rfl⟩
  have C1 : Hid (Chg [] w wB) := by show Chg [] w wB; rw [hwB]; exact (Chg.refl _ _).alloc _
  have B1 : Blk wB w.heap.size 49 [lv, .func (.func 22) #[] #[.pointer (some ⟨C, 0, none⟩)], .func (.func 23) #[] #[.pointer (some ⟨M, 0, none⟩)]] := by rw [hwB]; exact Blk.made w _ _
  have KK : Hid (∀ W, Chg [] wB W → W.cell? ⟨w.heap.size, 0, none⟩ = some lv ∧ W.cell? ⟨w.heap.size, 1, none⟩ = some (.func (.func 22) #[] #[.pointer (some ⟨C, 0, none⟩)]) ∧ W.cell? ⟨w.heap.size, 2, none⟩ = some (.func (.func 23) #[] #[.pointer (some ⟨M, 0, none⟩)])) := fun W c => ⟨(B1.chg c (by simp)).cell (j := 0) rfl, (B1.chg c (by simp)).cell (j := 1) rfl, (B1.chg c (by simp)).cell (j := 2) rfl⟩
  have hjr : Vt.jr ds < ds.length := by unfold Vt.jr; omega
  have T := h.told
  have JA := Lib.hid (fun (W : World) (c : Chg [] w W) => journal_any ds lv C M W (h.chg c) h0)
  have CA := Lib.hid (fun (W : World) (c : Chg [] w W) => T.cs (Vt.jr ds) hjr W c)
  obtain ⟨hl1, hl2⟩ := Vt.lead_ex hm
  have hll := Vt.cnt_lt (Vt.latest_cnt hl1)
  have LA := Lib.hid (fun (i : Nat) (hi : i ≤ Vt.lead ds) (W : World) (c : Chg [] w W) => latest_any ds lv C M i W (h.chg c) (by omega))
  have GD : Hid (Vt.guide ds = if Vt.cnt ds (Vt.jr ds) = true then Vt.jr ds else Vt.lead ds) := rfl
  have LT := Lib.hid hl1
  have LF := Lib.hid hl2
  obtain ⟨K, hK⟩ : ∃ K, K = Vt.lead ds := ⟨_, rfl⟩
  have hKn : (K : Int) ≤ 140737488355328 := by omega
  rw [← hK] at GD LT LF LA
  generalize Vt.guide ds = G at *
  generalize Vt.cnt ds (Vt.jr ds) = CJ at *
  generalize Vt.jr ds = J at *
  unfold pollV at *
  obtain ⟨n, hn⟩ : ∃ n, n = ds.length := ⟨_, rfl⟩
  rw [← hn] at hlv
  replace hwB := Lib.hid hwB
  have K0 := KK.out _ ((Chg.refl [] wB).drewN 1)
  subst hlv
  obtain ⟨k0, k1, k2⟩ := KK.out wB (Chg.refl _ _)
  clear h h0 hd hn hb hl T B1 hjr hcp hm hl1 hl2 hll hK
  go_enter Try.func28, Try.ntmps28
  go_wp2_with fail
  rw [← hwB.out]
  clear hwB
  have Q0 : Hid (Chg [] wB wB.drew) := (Chg.refl [] wB).drewN 1
  go_region_held3 (fun W' : World => W'.cell? ⟨w.heap.size, 0, none⟩ = some (.slice (some ⟨b, o, none⟩) n cp) ∧ W'.cell? ⟨w.heap.size, 1, none⟩ = some (.func (.func 22) #[] #[.pointer (some ⟨C, 0, none⟩)]) ∧ W'.cell? ⟨w.heap.size, 2, none⟩ = some (.func (.func 23) #[] #[.pointer (some ⟨M, 0, none⟩)])) (first | exact KK.out _ Q1.out | exact KK.out _ Q0.out) (first
    | (go_at_call 22; refine (CA.out _ (C1.out.trans Q1.out)).mono ?_; rintro e w4 ⟨rfl, rfl⟩)
    | (go_at_call 26; refine (JA.out _ (C1.out.trans Q0.out)).mono ?_; rintro e w3 ⟨rfl, C3⟩; have Q1 : Hid (Chg [] wB w3) := Q0.out.trans C3.out))
  have C3' := Lib.hid (C1.out.trans Q1.out)
  clear k0 k1 k2 Q0 C3 CA K0
  cases CJ with
  | true =>
    have E := GD.out
    rw [if_pos rfl] at E
    subst E
    obtain ⟨k0, k1, k2⟩ := KK.out _ Q1.out
    clear KK LA LT LF
    go_wp2_with fail
    refine (JA.out _ C3'.out).mono ?_
    rintro e w5 ⟨rfl, C5⟩
    have C5' := Lib.hid (C3'.out.trans C5.out)
    clear JA k0 k1 k2 C3' C5
    go_wp2_with fail
    go_ret
    exact ⟨rfl, C5'⟩
  | false =>
    have E := GD.out
    rw [if_neg (by decide)] at E
    subst E
    clear JA
    go_wp2_with fail
    go_loopw [3] (fun i wr => ∃ j : Nat, j ≤ G ∧ i = .int .i64 (j : Int) ∧ Hid (Chg [] wB wr)) (fun i _ => G - (intOf i).toNat)
    case atStart => exact ⟨0, Nat.zero_le _, rfl, Q1⟩
    case round =>
      obtain ⟨j, hj, rfl, CR⟩ := hrel
      have hj0 : (0 : Int) ≤ j := Int.natCast_nonneg _
      obtain ⟨k0, k1, k2⟩ := KK.out _ CR.out
      have LS := Lib.hid (LA.out j hj wr (C1.out.trans CR.out))
      by_cases hlt : j < G
      · have hj1 : (j : Int) < G := by omega
        rw [LF.out j hlt] at LS
        go_wp2_with fail
        refine LS.out.mono ?_
        rintro e w5 ⟨rfl, C5⟩
        have C5' := Lib.hid (CR.out.trans C5.out)
        clear LS CR C5 k0 k1 k2
        go_wp2_with fail
        exact ⟨⟨j + 1, by omega, by go_num, C5'⟩, by simp [intOf]; omega⟩
      · obtain rfl : j = G := by omega
        rw [LT.out] at LS
        go_wp2_with fail
        refine LS.out.mono ?_
        rintro e w5 ⟨rfl, C5⟩
        have C5' := Lib.hid (C1.out.trans (CR.out.trans C5.out))
        clear LS CR C5 k0 k1 k2
        go_wp2_with fail
        go_ret
        exact ⟨rfl, C5'⟩

end Go.Proofs.Ytffpjefecmkfmaa
