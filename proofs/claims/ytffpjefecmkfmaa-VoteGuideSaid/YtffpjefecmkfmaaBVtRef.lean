/-
  Why a poll is refused, and its guide. By an AI agent.
-/
import Derived.Test.YtffpjefecmkfmaaBVtAgr
import Derived.Test.YtffpjefecmkfmaaBVtSame
namespace Go.Proofs.Ytffpjefecmkfmaa
open Go.RowKit

theorem enters_of_fn (fn : Nat) (f : Func) (hf : Try.prog.funcs[fn]? = some f) (h1 : (f.name == "runtime.NumGoroutine") = false) (h2 : f.body.isNone = false) (args : Array Value) (w : World) : (callFunc fn args).run Try.prog w = .ok (.enter fn args) w := by
  have h3 : ¬ f.name = "runtime.NumGoroutine" := by simpa using h1
  have h4 : ¬ f.body = none := fun e => by rw [e] at h2; cases h2
  simp [callFunc, go_sem, hf, h3, h4]

theorem enters_counts (args : Array Value) (w : World) : (callFunc 22 args).run Try.prog w = .ok (.enter 22 args) w := enters_of_fn _ _ Try.func22 (by kernel_rfl) (by kernel_rfl) args w
theorem enters_akin (args : Array Value) (w : World) : (callFunc 25 args).run Try.prog w = .ok (.enter 25 args) w := enters_of_fn _ _ Try.func25 (by kernel_rfl) (by kernel_rfl) args w
theorem enters_latest (args : Array Value) (w : World) : (callFunc 33 args).run Try.prog w = .ok (.enter 33 args) w := enters_of_fn _ _ Try.func33 (by kernel_rfl) (by kernel_rfl) args w
theorem enters_same (args : Array Value) (w : World) : (callFunc 34 args).run Try.prog w = .ok (.enter 34 args) w := enters_of_fn _ _ Try.func34 (by kernel_rfl) (by kernel_rfl) args w

/-- The ballots that count are alike as far as Akin goes. -/
theorem agree_akin (ds : List BalD) (lv : Value) (C M : Nat) (w : World) (h : PollIn w ds lv C M) (h0 : 0 < ds.length) :
    Calls Try.prog 24 #[pollV lv C M, .func (.func 22) #[] #[.pointer (some ⟨C, 0, none⟩)], .func (.func 25) #[] #[]] w fun e w' => e = .returned (.bool (decide (Vt.Agree ds (Vt.cnt ds) Sup.akin ds.length))) ∧ Hid (Chg [] w w') :=
  agree_any ds lv C M w h h0 22 #[] #[.pointer (some ⟨C, 0, none⟩)] enters_counts (Vt.cnt ds) (fun i hi W c => (h.told.cs i hi W c).mono (by rintro e w' ⟨h1, rfl⟩; exact ⟨h1, Chg.refl _ _⟩))
    25 enters_akin Sup.akin (fun i j c d _ _ _ _ _ W _ => akin_any c.s d.s c.u d.u W)

/-- The latest are the same. -/
theorem agree_same (ds : List BalD) (lv : Value) (C M : Nat) (w : World) (h : PollIn w ds lv C M) (h0 : 0 < ds.length) :
    Calls Try.prog 24 #[pollV lv C M, .func (.func 33) #[pollV lv C M] #[], .func (.func 34) #[] #[]] w fun e w' => e = .returned (.bool (decide (Vt.Agree ds (Vt.latest ds) Sup.like ds.length))) ∧ Hid (Chg [] w w') :=
  agree_any ds lv C M w h h0 33 #[pollV lv C M] #[] enters_latest (Vt.latest ds) (fun i hi W c => latest_any ds lv C M i W (h.chg c) hi)
    34 enters_same Sup.like (fun i j c d _ hc hd hi hj W k => by
      obtain ⟨b, o, cp, rfl, hb, hl, _, hin⟩ := h.head h0
      have ci := (hin i c hc).chg hb k
      have di := (hin j d hd).chg hb k
      have o1 := (Vt.cnt_is (Vt.latest_cnt hi)).ok
      have o2 := (Vt.cnt_is (Vt.latest_cnt hj)).ok
      rw [Vt.sp_at hc] at o1
      rw [Vt.sp_at hd] at o2
      exact same_any c.s d.s c.u d.u W o1 o2 ci.fit di.fit ci.sl di.sl ci.big di.big)

set_option maxHeartbeats 4000000 in
set_option maxRecDepth 100000 in
theorem orphaned_any (ds : List BalD) (lv : Value) (C M : Nat) (w : World) (h : PollIn w ds lv C M) (h0 : 0 < ds.length) :
    Calls Try.prog 27 #[pollV lv C M] w fun e w' => e = .returned (.int .u16 (Vt.orphan ds : Int)) ∧ Hid (Chg [] w w') := by
  obtain ⟨b, o, cp, rfl, hb, hl, hcp, hd⟩ := h.head h0
  obtain ⟨wB, hwB⟩ : ∃ wB, wB = w.alloc (.cells #[.slice (some ⟨b, o, none⟩) ds.length cp, .func (.func 22) #[] #[.pointer (some ⟨C, 0, none⟩)], .func (.func 23) #[] #[.pointer (some ⟨M, 0, none⟩)]] 49) := ⟨_, rfl⟩
  have C1 : Hid (Chg [] w wB) := by show Chg [] w wB; rw [hwB]; exact (Chg.refl _ _).alloc _
  have B1 : Hid (Blk wB w.heap.size 49 [.slice (some ⟨b, o, none⟩) ds.length cp, .func (.func 22) #[] #[.pointer (some ⟨C, 0, none⟩)], .func (.func 23) #[] #[.pointer (some ⟨M, 0, none⟩)]]) := by show Blk _ _ _ _; rw [hwB]; exact Blk.made w _ _
  have k0 := B1.out.cell (j := 0) rfl
  have HD := Lib.hid (fun (i : Nat) (d : BalD) (hi : ds[i]? = some d) (W : World) (c : Chg [] w W) => ((hd i d hi).chg hb c).at13)
  have HSL := Lib.hid (fun (i : Nat) (d : BalD) (hi : ds[i]? = some d) => (hd i d hi).sl.slice)
  have LA := Lib.hid (fun (i : Nat) (hi : i < ds.length) (W : World) (c : Chg [] w W) => latest_any ds _ C M i W (h.chg c) hi)
  have AG := Lib.hid (fun (W : World) (c : Chg [] w W) => agree_same ds _ C M W (h.chg c) h0)
  have hmf : ∀ (fn : Fn) (first cap : Array Value) (w : World), (Instr.makeFunc fn first cap).run Try.prog w = .ok (.func fn first cap) w := fun _ _ _ _ => rfl
  obtain ⟨n, hn⟩ : ∃ n, n = ds.length := ⟨_, rfl⟩
  obtain ⟨RES, hRES⟩ : ∃ r, Vt.orphan ds = r := ⟨_, rfl⟩
  have YES : Hid (∀ i, i < n → Vt.latest ds i = true → (Vt.sp ds i).lost = false → (RES : Int) = 153) := fun i hi h1 h2 => by
    rw [← hRES]
    unfold Vt.orphan
    rw [if_pos ⟨i, by omega, h1, h2⟩]
    rfl
  have NO : Hid ((∀ i, i < n → Vt.latest ds i = true → (Vt.sp ds i).lost = true) → (RES : Int) = if decide (Vt.Agree ds (Vt.latest ds) Sup.like ds.length) = true then 0 else 151) := fun h => by
    rw [← hRES]
    unfold Vt.orphan
    rw [if_neg (by rintro ⟨i, hi, h1, h2⟩; rw [h i (by omega) h1] at h2; cases h2)]
    by_cases q : Vt.Agree ds (Vt.latest ds) Sup.like ds.length
    · rw [if_pos q, if_pos (decide_eq_true q)]; rfl
    · rw [if_neg q, if_neg (by rw [decide_eq_false q]; decide)]; rfl
  have HAS : Hid (∀ j, j < n → ∃ d, ds[j]? = some d) := fun j hj => ⟨_, List.getElem?_eq_getElem (by omega)⟩
  rw [hRES]
  generalize decide (Vt.Agree ds (Vt.latest ds) Sup.like ds.length) = AR at *
  unfold pollV at *
  rw [← hn] at LA AG B1 k0 hl hcp hwB
  rw [← hn]
  have hn0 : (0 : Int) ≤ n := Int.natCast_nonneg _
  have hn1 : (n : Int) ≤ 140737488355328 := by omega
  replace hwB := Lib.hid hwB
  clear h h0 hd hn hb hl hRES
  generalize (RES : Int) = R at *
  go_enter Try.func27, Try.ntmps27
  go_wp2_with fail
  rw [← hwB.out]
  clear hwB
  go_wp2_with fail
  go_loopw [8] (fun i wr => ∃ j : Nat, j ≤ n ∧ i = .int .i64 (j : Int) ∧ Hid (∀ i, i < j → Vt.latest ds i = true → (Vt.sp ds i).lost = true) ∧ Hid (Chg [] wB wr)) (fun i _ => n - (intOf i).toNat)
  case atStart => exact ⟨0, Nat.zero_le _, rfl, (fun i hi => absurd hi (Nat.not_lt_zero i)), Chg.refl _ _⟩
  case round =>
    obtain ⟨j, hj, rfl, AL, CR⟩ := hrel
    have hj0 : (0 : Int) ≤ j := Int.natCast_nonneg _
    by_cases hlt : j < n
    · have hj1 : (j : Int) < n := by omega
      obtain ⟨d, hdj⟩ := HAS.out j hlt
      obtain ⟨uo, uc, hu⟩ := HSL.out j d hdj
      obtain ⟨m0, m1, m2, m3, m4, m5, m6, m7, m8, m9, m10, m11, m12⟩ := HD.out j d hdj wr (C1.out.trans CR.out)
      rw [hu] at m11
      have E1 : Vt.sp ds j = d.s := Vt.sp_at hdj
      obtain ⟨W9, hW9⟩ : ∃ W9, W9 = wr.alloc (.cells #[.bool d.has, .int .u64 (d.s.id : Int), .int .u64 (d.s.ev : Int), .int .u64 (d.s.safe : Int), .int .i64 d.s.role, .int .i64 d.s.m, .int .i64 d.s.c, .int .i64 d.s.t, .int .i64 d.s.ring, .bool d.s.lazy, .bool d.s.lost, .slice uo d.s.st.length uc, .int .i64 d.s.cur] 39) := ⟨_, rfl⟩
      have B9 : Hid (Blk W9 wr.heap.size 39 [.bool d.has, .int .u64 (d.s.id : Int), .int .u64 (d.s.ev : Int), .int .u64 (d.s.safe : Int), .int .i64 d.s.role, .int .i64 d.s.m, .int .i64 d.s.c, .int .i64 d.s.t, .int .i64 d.s.ring, .bool d.s.lazy, .bool d.s.lost, .slice uo d.s.st.length uc, .int .i64 d.s.cur]) := by show Blk _ _ _ _; rw [hW9]; exact Blk.made wr _ _
      have C9 : Hid (Chg [] wB W9) := by show Chg _ _ _; rw [hW9]; exact CR.out.alloc _
      have LS := Lib.hid (LA.out j hlt W9 (C1.out.trans C9.out))
      have k0' := (B1.out.chg C9.out (by simp)).cell (j := 0) rfl
      have k1' := (B1.out.chg C9.out (by simp)).cell (j := 1) rfl
      have k2' := (B1.out.chg C9.out (by simp)).cell (j := 2) rfl
      rw [hW9] at k0' k1' k2'
      clear hdj hu
      replace hW9 := Lib.hid hW9
      go_wp2_with fail
      rw [← hW9.out]
      refine LS.out.mono ?_
      rintro e w3 ⟨rfl, C3⟩
      have C3' := Lib.hid (C9.out.trans C3.out)
      have c10 := (B9.out.chg C3.out (by simp)).cell (j := 10) rfl
      generalize wr.heap.size = g9 at *
      clear LS C9 C3 hW9 m0 m1 m2 m3 m4 m5 m6 m7 m8 m9 m10 m11 m12 CR k0' k1' k2' B9
      clear W9
      cases hla : Vt.latest ds j with
      | false =>
        have AL2 : Hid (∀ i, i < j + 1 → Vt.latest ds i = true → (Vt.sp ds i).lost = true) := fun i hi hp => by
          by_cases e : i = j
          · subst e; rw [hla] at hp; cases hp
          · exact AL.out i (by omega) hp
        clear AL E1
        go_wp2_with fail
        exact ⟨⟨j + 1, by omega, by go_num, AL2, C3'⟩, by simp [intOf]; omega⟩
      | true =>
        have HLA := Lib.hid hla
        clear hla
        cases hlo : d.s.lost with
        | true =>
          have AL2 : Hid (∀ i, i < j + 1 → Vt.latest ds i = true → (Vt.sp ds i).lost = true) := fun i hi hp => by
            by_cases e : i = j
            · subst e; rw [E1]; exact hlo
            · exact AL.out i (by omega) hp
          rw [hlo] at c10
          clear AL E1 hlo
          go_wp2_with fail
          exact ⟨⟨j + 1, by omega, by go_num, AL2, C3'⟩, by simp [intOf]; omega⟩
        | false =>
          have E : R = 153 := YES.out j hlt HLA.out (by rw [E1]; exact hlo)
          rw [hlo] at c10
          have CF := Lib.hid (C1.out.trans C3'.out)
          clear AL E1 hlo
          subst E
          go_wp2_with fail
          go_ret
          exact ⟨rfl, CF⟩
    · obtain rfl : j = n := by omega
      have E := NO.out AL.out
      have AS := Lib.hid (AG.out wr (C1.out.trans CR.out))
      have k0' := (B1.out.chg CR.out (by simp)).cell (j := 0) rfl
      have k1' := (B1.out.chg CR.out (by simp)).cell (j := 1) rfl
      have k2' := (B1.out.chg CR.out (by simp)).cell (j := 2) rfl
      clear AL
      go_wp2_with fail
      refine AS.out.mono ?_
      rintro e w3 ⟨rfl, C3⟩
      have CF := Lib.hid (C1.out.trans (CR.out.trans C3.out))
      clear AS C3 CR k0' k1' k2' AG
      cases AR with
      | true =>
        rw [if_pos rfl] at E
        subst E
        go_wp2_with fail
        go_ret
        exact ⟨rfl, CF⟩
      | false =>
        rw [if_neg (by decide)] at E
        subst E
        go_wp2_with fail
        go_ret
        exact ⟨rfl, CF⟩

end Go.Proofs.Ytffpjefecmkfmaa
