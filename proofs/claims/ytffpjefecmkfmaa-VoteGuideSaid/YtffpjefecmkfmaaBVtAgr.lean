/-
  Whether each two of a poll's ballots are alike. By an AI agent.
-/
import Derived.Test.YtffpjefecmkfmaaBVtAsk
import Derived.WalkMore
namespace Go.Proofs.Ytffpjefecmkfmaa
open Go.RowKit

theorem Vt.agree_succ {ds : List BalD} {p : Nat → Bool} {r : Sup → Sup → Bool} {j : Nat} (h : Vt.Agree ds p r j) (k : p j = true → ∀ i, i < j → p i = true → r (Vt.sp ds i) (Vt.sp ds j) = true) : Vt.Agree ds p r (j + 1) := fun i hi hp k' hk hq => by
  by_cases e : i = j
  · subst e
    exact k hp k' hk hq
  · exact h i (by omega) hp k' hk hq

set_option maxHeartbeats 8000000 in
set_option maxRecDepth 100000 in
theorem agree_any (ds : List BalD) (lv : Value) (C M : Nat) (w : World) (h : PollIn w ds lv C M) (h0 : 0 < ds.length)
    (fn : Nat) (first caps : Array Value) (hen : ∀ (args : Array Value) (w : World), (callFunc fn args).run Try.prog w = .ok (.enter fn args) w) (p : Nat → Bool)
    (hask : ∀ i : Nat, i < ds.length → ∀ W, Chg [] w W → Calls Try.prog fn (first ++ #[.int .i64 (i : Int)] ++ caps) W fun e w' => e = .returned (.bool (p i)) ∧ Hid (Chg [] W w'))
    (fa : Nat) (hena : ∀ (args : Array Value) (w : World), (callFunc fa args).run Try.prog w = .ok (.enter fa args) w) (r : Sup → Sup → Bool)
    (hal : ∀ i j c d, i < j → ds[i]? = some c → ds[j]? = some d → p i = true → p j = true → ∀ W, Chg [] w W → Calls Try.prog fa #[c.s.val c.u, d.s.val d.u] W fun e w' => e = .returned (.bool (r c.s d.s)) ∧ Hid (Chg [] W w')) :
    Calls Try.prog 24 #[pollV lv C M, .func (.func fn) first caps, .func (.func fa) #[] #[]] w fun e w' => e = .returned (.bool (decide (Vt.Agree ds p r ds.length))) ∧ Hid (Chg [] w w') := by
  obtain ⟨b, o, cp, rfl, hb, hl, hcp, hd⟩ := h.head h0
  obtain ⟨wB, hwB⟩ : ∃ wB, wB = w.alloc (.cells #[.slice (some ⟨b, o, none⟩) ds.length cp, .func (.func 22) #[] #[.pointer (some ⟨C, 0, none⟩)], .func (.func 23) #[] #[.pointer (some ⟨M, 0, none⟩)]] 49) := ⟨_, rfl⟩
  have C1 : Hid (Chg [] w wB) := by show Chg [] w wB; rw [hwB]; exact (Chg.refl _ _).alloc _
  have B1 : Hid (Blk wB w.heap.size 49 [.slice (some ⟨b, o, none⟩) ds.length cp, .func (.func 22) #[] #[.pointer (some ⟨C, 0, none⟩)], .func (.func 23) #[] #[.pointer (some ⟨M, 0, none⟩)]]) := by show Blk _ _ _ _; rw [hwB]; exact Blk.made w _ _
  have k0 := B1.out.cell (j := 0) rfl
  have HASK := Lib.hid hask
  have HAL := Lib.hid hal
  have HD := Lib.hid (fun (i : Nat) (d : BalD) (hi : ds[i]? = some d) (W : World) (c : Chg [] w W) => ((hd i d hi).chg hb c).at13)
  have HSL := Lib.hid (fun (i : Nat) (d : BalD) (hi : ds[i]? = some d) => (hd i d hi).sl.slice)
  obtain ⟨n, hn⟩ : ∃ n, n = ds.length := ⟨_, rfl⟩
  have YES : Hid (Vt.Agree ds p r n → decide (Vt.Agree ds p r ds.length) = true) := fun h => by rw [decide_eq_true_eq, ← hn]; exact h
  have NO : Hid (∀ i j, j < n → i < j → p i = true → p j = true → r (Vt.sp ds i) (Vt.sp ds j) = false → decide (Vt.Agree ds p r ds.length) = false) := fun i j hj hi hpi hpj hr => by
    rw [decide_eq_false_iff_not]
    intro q
    have := q j (by omega) hpj i hi hpi
    rw [hr] at this
    cases this
  have HAS : Hid (∀ j, j < n → ∃ d, ds[j]? = some d) := fun j hj => ⟨_, List.getElem?_eq_getElem (by omega)⟩
  generalize decide (Vt.Agree ds p r ds.length) = RES at *
  rw [← hn] at HASK B1 k0 hl hcp
  rw [← hn] at hwB
  rw [← hn]
  have hn0 : (0 : Int) ≤ n := Int.natCast_nonneg _
  have hn1 : (n : Int) ≤ 140737488355328 := by omega
  replace hwB := Lib.hid hwB
  clear h h0 hask hal hd hn hb hl
  unfold pollV
  go_enter Try.func24, Try.ntmps24
  go_wp2_with fail
  refine wp_scope_straight ?_
  go_wp2_with fail
  rw [← hwB.out]
  clear hwB
  refine wp_label ?_
  go_wp2_with fail
  go_loopw [15, 7] (fun i g wr => ∃ j : Nat, j ≤ n ∧ i = .int .i64 (j : Int) ∧ g = .bool true ∧ Hid (Vt.Agree ds p r j) ∧ Hid (Chg [] wB wr)) (fun i _ _ => n - (intOf i).toNat)
  case atStart => exact ⟨0, Nat.zero_le _, rfl, rfl, (fun i hi => absurd hi (Nat.not_lt_zero i)), Chg.refl _ _⟩
  case round =>
    obtain ⟨j, hj, rfl, rfl, AG, CR⟩ := hrel
    have hj0 : (0 : Int) ≤ j := Int.natCast_nonneg _
    by_cases hlt : j < n
    · have hj1 : (j : Int) < n := by omega
      obtain ⟨d, hdj⟩ := HAS.out j hlt
      obtain ⟨uo, uc, hu⟩ := HSL.out j d hdj
      obtain ⟨m0, m1, m2, m3, m4, m5, m6, m7, m8, m9, m10, m11, m12⟩ := HD.out j d hdj wr (C1.out.trans CR.out)
      rw [hu] at m11
      obtain ⟨W9, hW9⟩ : ∃ W9, W9 = wr.alloc (.cells #[.bool d.has, .int .u64 (d.s.id : Int), .int .u64 (d.s.ev : Int), .int .u64 (d.s.safe : Int), .int .i64 d.s.role, .int .i64 d.s.m, .int .i64 d.s.c, .int .i64 d.s.t, .int .i64 d.s.ring, .bool d.s.lazy, .bool d.s.lost, .slice uo d.s.st.length uc, .int .i64 d.s.cur] 39) := ⟨_, rfl⟩
      have B9 : Hid (Blk W9 wr.heap.size 39 [.bool d.has, .int .u64 (d.s.id : Int), .int .u64 (d.s.ev : Int), .int .u64 (d.s.safe : Int), .int .i64 d.s.role, .int .i64 d.s.m, .int .i64 d.s.c, .int .i64 d.s.t, .int .i64 d.s.ring, .bool d.s.lazy, .bool d.s.lost, .slice uo d.s.st.length uc, .int .i64 d.s.cur]) := by show Blk _ _ _ _; rw [hW9]; exact Blk.made wr _ _
      have C9 : Hid (Chg [] wB W9) := by show Chg _ _ _; rw [hW9]; exact CR.out.alloc _
      have AS := Lib.hid (HASK.out j hlt W9 (C1.out.trans C9.out))
      have HDJ := Lib.hid hdj
      have HU := Lib.hid hu
      clear hdj hu
      replace hW9 := Lib.hid hW9
      go_wp2_with fail
      rw [← hW9.out]
      refine AS.out.mono ?_
      rintro e w3 ⟨rfl, C3⟩
      have C3' := Lib.hid (C9.out.trans C3.out)
      replace B9 := Lib.hid (B9.out.chg C3.out (by simp))
      have k0' := (B1.out.chg C3'.out (by simp)).cell (j := 0) rfl
      generalize wr.heap.size = g9 at *
      clear AS C9 C3 hW9 m0 m1 m2 m3 m4 m5 m6 m7 m8 m9 m10 m11 m12 CR
      clear W9
      cases hpj : p j with
      | false =>
        have AG2 : Hid (Vt.Agree ds p r (j + 1)) := Vt.agree_succ AG.out (fun e => by rw [hpj] at e; cases e)
        clear AG HDJ HU B9
        go_wp2_with fail
        exact ⟨⟨j + 1, by omega, by go_num, rfl, AG2, C3'⟩, by simp [intOf]; omega⟩
      | true =>
        have HPJ := Lib.hid hpj
        clear hpj
        have hjc : (j : Int) ≤ cp := by omega
        go_wp2_with fail
        go_loopw [29, 7] (fun i g wr => ∃ k : Nat, k ≤ j ∧ i = .int .i64 (k : Int) ∧ g = .bool true ∧ Hid (∀ i, i < k → p i = true → r (Vt.sp ds i) (Vt.sp ds j) = true) ∧ Hid (Chg [] w3 wr)) (fun i _ _ => j - (intOf i).toNat)
        case atStart => exact ⟨0, Nat.zero_le _, rfl, rfl, (fun i hi => absurd hi (Nat.not_lt_zero i)), Chg.refl _ _⟩
        case round =>
          obtain ⟨k, hk, rfl, rfl, AK, CK⟩ := hrel
          have hk0 : (0 : Int) ≤ k := Int.natCast_nonneg _
          by_cases hlt2 : k < j
          · have hk1 : (k : Int) < j := by omega
            obtain ⟨c, hck⟩ := HAS.out k (by omega)
            obtain ⟨vo, vc, hv⟩ := HSL.out k c hck
            obtain ⟨m0, m1, m2, m3, m4, m5, m6, m7, m8, m9, m10, m11, m12⟩ := HD.out k c hck wr (C1.out.trans (C3'.out.trans CK.out))
            rw [hv] at m11
            obtain ⟨W9, hW9⟩ : ∃ W9, W9 = wr.alloc (.cells #[.bool c.has, .int .u64 (c.s.id : Int), .int .u64 (c.s.ev : Int), .int .u64 (c.s.safe : Int), .int .i64 c.s.role, .int .i64 c.s.m, .int .i64 c.s.c, .int .i64 c.s.t, .int .i64 c.s.ring, .bool c.s.lazy, .bool c.s.lost, .slice vo c.s.st.length vc, .int .i64 c.s.cur] 39) := ⟨_, rfl⟩
            have D9 : Hid (Blk W9 wr.heap.size 39 [.bool c.has, .int .u64 (c.s.id : Int), .int .u64 (c.s.ev : Int), .int .u64 (c.s.safe : Int), .int .i64 c.s.role, .int .i64 c.s.m, .int .i64 c.s.c, .int .i64 c.s.t, .int .i64 c.s.ring, .bool c.s.lazy, .bool c.s.lost, .slice vo c.s.st.length vc, .int .i64 c.s.cur]) := by show Blk _ _ _ _; rw [hW9]; exact Blk.made wr _ _
            have C9 : Hid (Chg [] w3 W9) := by show Chg _ _ _; rw [hW9]; exact CK.out.alloc _
            have AS := Lib.hid (HASK.out k (by omega) W9 (C1.out.trans (C3'.out.trans C9.out)))
            have HCK := Lib.hid hck
            have HV := Lib.hid hv
            clear hck hv
            replace hW9 := Lib.hid hW9
            go_wp2_with fail
            rw [← hW9.out]
            refine AS.out.mono ?_
            rintro e w5 ⟨rfl, C5⟩
            have C5' := Lib.hid (C9.out.trans C5.out)
            replace D9 := Lib.hid (D9.out.chg C5.out (by simp))
            generalize wr.heap.size = g11 at *
            clear AS C9 C5 hW9 m0 m1 m2 m3 m4 m5 m6 m7 m8 m9 m10 m11 m12 CK
            clear W9
            cases hpk : p k with
            | false =>
              have AK2 : Hid (∀ i, i < k + 1 → p i = true → r (Vt.sp ds i) (Vt.sp ds j) = true) := fun i hi hp => by
                by_cases e : i = k
                · subst e; rw [hpk] at hp; cases hp
                · exact AK.out i (by omega) hp
              clear AK HCK HV D9
              go_wp2_with fail
              exact ⟨⟨k + 1, by omega, by go_num, rfl, AK2, C5'⟩, by simp [intOf]; omega⟩
            | true =>
              have AL := Lib.hid (HAL.out k j c d hlt2 HCK.out HDJ.out hpk HPJ.out w5 (C1.out.trans (C3'.out.trans C5'.out)))
              rw [HU.out, HV.out] at AL
              have E1 : Vt.sp ds k = c.s := Vt.sp_at HCK.out
              have E2 : Vt.sp ds j = d.s := Vt.sp_at HDJ.out
              unfold Sup.val at AL
              have HPK := Lib.hid hpk
              clear hpk
              have n0 := D9.out.cell (j := 0) rfl
              have n1 := D9.out.cell (j := 1) rfl
              have n2 := D9.out.cell (j := 2) rfl
              have n3 := D9.out.cell (j := 3) rfl
              have n4 := D9.out.cell (j := 4) rfl
              have n5 := D9.out.cell (j := 5) rfl
              have n6 := D9.out.cell (j := 6) rfl
              have n7 := D9.out.cell (j := 7) rfl
              have n8 := D9.out.cell (j := 8) rfl
              have n9 := D9.out.cell (j := 9) rfl
              have n10 := D9.out.cell (j := 10) rfl
              have n11 := D9.out.cell (j := 11) rfl
              have n12 := D9.out.cell (j := 12) rfl
              have m0 := (B9.out.chg C5'.out (by simp)).cell (j := 0) rfl
              have m1 := (B9.out.chg C5'.out (by simp)).cell (j := 1) rfl
              have m2 := (B9.out.chg C5'.out (by simp)).cell (j := 2) rfl
              have m3 := (B9.out.chg C5'.out (by simp)).cell (j := 3) rfl
              have m4 := (B9.out.chg C5'.out (by simp)).cell (j := 4) rfl
              have m5 := (B9.out.chg C5'.out (by simp)).cell (j := 5) rfl
              have m6 := (B9.out.chg C5'.out (by simp)).cell (j := 6) rfl
              have m7 := (B9.out.chg C5'.out (by simp)).cell (j := 7) rfl
              have m8 := (B9.out.chg C5'.out (by simp)).cell (j := 8) rfl
              have m9 := (B9.out.chg C5'.out (by simp)).cell (j := 9) rfl
              have m10 := (B9.out.chg C5'.out (by simp)).cell (j := 10) rfl
              have m11 := (B9.out.chg C5'.out (by simp)).cell (j := 11) rfl
              have m12 := (B9.out.chg C5'.out (by simp)).cell (j := 12) rfl
              go_wp2_with fail
              refine AL.out.mono ?_
              rintro e w6 ⟨rfl, C6⟩
              have C6' := Lib.hid (C5'.out.trans C6.out)
              clear AL n0 n1 n2 n3 n4 n5 n6 n7 n8 n9 n10 n11 n12 m0 m1 m2 m3 m4 m5 m6 m7 m8 m9 m10 m11 m12
              cases hr : r c.s d.s with
              | true =>
                have AK2 : Hid (∀ i, i < k + 1 → p i = true → r (Vt.sp ds i) (Vt.sp ds j) = true) := fun i hi hp => by
                  by_cases e : i = k
                  · subst e; rw [E1, E2]; exact hr
                  · exact AK.out i (by omega) hp
                clear AK HCK HV D9 hr E1 E2
                go_wp2_with fail
                exact ⟨⟨k + 1, by omega, by go_num, rfl, AK2, C6'⟩, by simp [intOf]; omega⟩
              | false =>
                have E : RES = false := NO.out k j hlt hlt2 HPK.out HPJ.out (by rw [E1, E2]; exact hr)
                have CF := Lib.hid (C1.out.trans (C3'.out.trans C6'.out))
                clear hr E1 E2
                subst E
                go_wp2_with fail
                rw [Exit.noGoto_ret]
                go_ret
                exact ⟨rfl, CF⟩
          · obtain rfl : k = j := by omega
            have AG2 : Hid (Vt.Agree ds p r (k + 1)) := Vt.agree_succ AG.out (fun _ i hi hp => AK.out i hi hp)
            have CC := Lib.hid (C3'.out.trans CK.out)
            go_wp2_with fail
            exact ⟨⟨k + 1, by omega, by go_num, rfl, AG2, CC⟩, by simp [intOf]; omega⟩
    · obtain rfl : j = n := by omega
      have E : RES = true := YES.out AG.out
      have CF := Lib.hid (C1.out.trans CR.out)
      subst E
      go_wp2_with fail
      go_ret
      exact ⟨rfl, CF⟩

end Go.Proofs.Ytffpjefecmkfmaa
