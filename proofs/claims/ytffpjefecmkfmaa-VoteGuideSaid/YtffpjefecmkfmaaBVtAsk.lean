/-
  A poll is asked: journal, latest, saw. By an AI agent.
-/
import Derived.Test.YtffpjefecmkfmaaBVtNew
namespace Go.Proofs.Ytffpjefecmkfmaa
open Go.RowKit

/-- What a poll's cells tell, in whatever later world. -/
structure Told (w : World) (ds : List BalD) (n : Nat) (lv : Value) (C M : Nat) : Prop where
  cs : ∀ i : Nat, i < n → ∀ W, Chg [] w W → Calls Try.prog 22 #[.int .i64 (i : Int), .pointer (some ⟨C, 0, none⟩)] W fun e w' => e = .returned (.bool (Vt.cnt ds i)) ∧ W = w'
  ms : ∀ W, Chg [] w W → Calls Try.prog 23 #[.pointer (some ⟨M, 0, none⟩)] W fun e w' => e = .returned (.int .u64 (Vt.most ds : Int)) ∧ W = w'

theorem PollIn.told {w : World} {ds : List BalD} {lv : Value} {C M : Nat} (h : PollIn w ds lv C M) : Told w ds ds.length lv C M := by
  refine ⟨fun i hi W c => ?_, fun W c => ?_⟩
  · obtain ⟨_, ⟨G, h2, h3⟩, _⟩ := h.chg c
    exact counts_any C G ds.length ds.length i _ W h2 hi (h3 i hi)
  · exact most_any M _ W (h.chg c).ms

theorem PollIn.head {w : World} {ds : List BalD} {lv : Value} {C M : Nat} (h : PollIn w ds lv C M) (h0 : 0 < ds.length) : ∃ b o c, lv = .slice (some ⟨b, o, none⟩) ds.length c ∧ b < w.heap.size ∧ ds.length ≤ 140737488355328 ∧ ds.length ≤ c ∧ ∀ i d, ds[i]? = some d → BalIn w b (o + i * 13) d := h.bals.head h0

set_option maxHeartbeats 400000 in
theorem journal_any (ds : List BalD) (lv : Value) (C M : Nat) (w : World) (h : PollIn w ds lv C M) (h0 : 0 < ds.length) :
    Calls Try.prog 26 #[pollV lv C M] w fun e w' => e = .returned (.int .i64 (Vt.jr ds : Int)) ∧ Hid (Chg [] w w') := by
  obtain ⟨b, o, cp, rfl, _, hl, _⟩ := h.head h0
  have C1 : Hid (Chg [] w (w.alloc (.cells #[.slice (some ⟨b, o, none⟩) ds.length cp, .func (.func 22) #[] #[.pointer (some ⟨C, 0, none⟩)], .func (.func 23) #[] #[.pointer (some ⟨M, 0, none⟩)]] 49))) := (Chg.refl _ _).alloc _
  have hj : (Vt.jr ds : Int) = (ds.length : Int) - 1 := by unfold Vt.jr; omega
  rw [hj]
  generalize ds.length = n at *
  have hn0 : (0 : Int) ≤ n := Int.natCast_nonneg _
  have hn1 : (n : Int) ≤ 140737488355328 := by omega
  have hn2 : (1 : Int) ≤ n := by omega
  clear h hj
  unfold pollV
  go_enter Try.func26, Try.ntmps26
  go_wp2_with fail
  go_ret
  exact ⟨by go_num, C1⟩

set_option maxHeartbeats 1000000 in
set_option maxRecDepth 100000 in
theorem latest_any (ds : List BalD) (lv : Value) (C M i : Nat) (w : World) (h : PollIn w ds lv C M) (hi : i < ds.length) :
    Calls Try.prog 33 #[pollV lv C M, .int .i64 (i : Int)] w fun e w' => e = .returned (.bool (Vt.latest ds i)) ∧ Hid (Chg [] w w') := by
  obtain ⟨b, o, cp, rfl, hb, hl, _, hd⟩ := h.head (by omega)
  obtain ⟨wB, hwB⟩ : ∃ wB, wB = w.alloc (.cells #[.slice (some ⟨b, o, none⟩) ds.length cp, .func (.func 22) #[] #[.pointer (some ⟨C, 0, none⟩)], .func (.func 23) #[] #[.pointer (some ⟨M, 0, none⟩)]] 49) := ⟨_, rfl⟩
  have C1 : Chg [] w wB := by rw [hwB]; exact (Chg.refl _ _).alloc _
  have T := h.told
  have CA := Lib.hid (fun W (c : Chg [] wB W) => T.cs i hi W (C1.trans c))
  have MA := Lib.hid (fun W (c : Chg [] wB W) => T.ms W (C1.trans c))
  have B1 : Blk wB w.heap.size 49 [.slice (some ⟨b, o, none⟩) ds.length cp, .func (.func 22) #[] #[.pointer (some ⟨C, 0, none⟩)], .func (.func 23) #[] #[.pointer (some ⟨M, 0, none⟩)]] := by rw [hwB]; exact Blk.made w _ _
  obtain ⟨d, hdi⟩ : ∃ d, ds[i]? = some d := ⟨_, List.getElem?_eq_getElem hi⟩
  have ce := ((hd i d hdi).chg hb C1).c2
  have k0 := B1.cell (j := 0) rfl
  have k1 := B1.cell (j := 1) rfl
  have k2 := B1.cell (j := 2) rfl
  have EE : Vt.latest ds i = (Vt.cnt ds i && ((d.s.ev : Int) == (Vt.most ds : Int))) := by
    unfold Vt.latest
    rw [Vt.sp_at hdi]
    congr 1
    rw [Bool.eq_iff_iff, decide_eq_true_eq, beq_iff_eq]
    omega
  rw [EE]
  replace C1 := Lib.hid C1
  have Q0 : Hid (Chg [] wB wB.drew) := (Chg.refl [] wB).drewN 1
  have hlb := World.block_lt_of_cell? wB _ k0
  have hlc := World.block_lt_of_cell? wB _ ce
  have KK : Hid (∀ W, Chg [] wB W → W.cell? ⟨w.heap.size, 0, none⟩ = some (.slice (some ⟨b, o, none⟩) ds.length cp) ∧ W.cell? ⟨w.heap.size, 1, none⟩ = some (.func (.func 22) #[] #[.pointer (some ⟨C, 0, none⟩)]) ∧ W.cell? ⟨w.heap.size, 2, none⟩ = some (.func (.func 23) #[] #[.pointer (some ⟨M, 0, none⟩)]) ∧ W.cell? ⟨b, o + i * 13 + 2, none⟩ = some (.int .u64 (d.s.ev : Int))) := fun W c => ⟨(c.cell (p := ⟨w.heap.size, 0, none⟩) hlb (by simp)).trans k0, (c.cell (p := ⟨w.heap.size, 1, none⟩) hlb (by simp)).trans k1, (c.cell (p := ⟨w.heap.size, 2, none⟩) hlb (by simp)).trans k2, (c.cell (p := ⟨b, o + i * 13 + 2, none⟩) hlc (by simp)).trans ce⟩
  generalize Vt.cnt ds i = K at *
  generalize (Vt.most ds : Int) = X at *
  generalize (d.s.ev : Int) = Y at *
  clear T EE B1 h hd hdi d
  generalize ds.length = n at *
  have h0 : (0 : Int) ≤ i := Int.natCast_nonneg _
  have h1 : (i : Int) < n := by omega
  unfold pollV
  go_enter Try.func33, Try.ntmps33
  go_wp2_with fail
  rw [← hwB]
  clear hwB
  cases K with
  | false =>
    refine wp_region_held_drew (S := (fun W' : World => W'.cell? ⟨w.heap.size, 0, none⟩ = some (.slice (some ⟨b, o, none⟩) n cp) ∧ W'.cell? ⟨w.heap.size, 1, none⟩ = some (.func (.func 22) #[] #[.pointer (some ⟨C, 0, none⟩)]) ∧ W'.cell? ⟨w.heap.size, 2, none⟩ = some (.func (.func 23) #[] #[.pointer (some ⟨M, 0, none⟩)]) ∧ W'.cell? ⟨b, o + i * 13 + 2, none⟩ = some (.int .u64 Y))) (by kernel_rfl) (KK.out _ Q0.out) (fun hHeld => ?_)
    refine wpAnyH_take (i := 0) (oi := _) (v := ?_) rfl (by kernel_rfl) (by kernel_rfl) (by kernel_rfl) (fun _ _ _ h => h) (Or.inl ⟨by rfl, ?_⟩) (by assumption) ?_
    rotate_left
    · (intro w0' hSw; (try dsimp only at hSw); go_simp; try with_reducible rfl)
    change wpAnyH _ _ _ _ _ _ _ (Act.put _ (some 5) _) _
    try simp only [Act.put, List.setIfInBounds_toArray, List.set_cons_zero, List.set_cons_succ]
    refine wpAnyH_take (i := 1) (oi := _) (v := ?_) rfl (by kernel_rfl) (by kernel_rfl) (by kernel_rfl) (fun _ _ _ h => h) (Or.inl ⟨by rfl, ?_⟩) (by assumption) ?_
    rotate_left
    · (intro w0' hSw; (try dsimp only at hSw); go_simp; try with_reducible rfl)
    change wpAnyH _ _ _ _ _ _ _ (Act.put _ (some 6) _) _
    try simp only [Act.put, List.setIfInBounds_toArray, List.set_cons_zero, List.set_cons_succ]
    refine wpAnyH_take (i := 2) (oi := _) (v := ?_) rfl (by kernel_rfl) (by kernel_rfl) (by kernel_rfl) (fun _ _ _ h => h) (Or.inl ⟨by rfl, ?_⟩) (by assumption) ?_
    rotate_left
    · (intro w0' hSw; (try dsimp only at hSw); go_simp; try with_reducible rfl)
    change wpAnyH _ _ _ _ _ _ _ (Act.put _ (some 7) _) _
    try simp only [Act.put, List.setIfInBounds_toArray, List.set_cons_zero, List.set_cons_succ]
    refine wpAnyH_ready (rs := [3]) (by kernel_rfl) (by simp) ?_
    refine AllReadyH.cons (o := _) rfl (fun K' hK' => ?_) AllReadyH.nil
    go_simp
    (go_at_call 22; refine (CA.out _ Q0.out).mono ?_; rintro e w1 ⟨rfl, rfl⟩)
    refine hK'.out _ _ (KK.out _ Q0.out) (fun hHeld => ?_)
    clear hK' K'
    try simp only [Act.put, List.setIfInBounds_toArray, List.set_cons_zero, List.set_cons_succ]
    refine wpAnyH_take (i := 4) (oi := _) (v := ?_) rfl (by kernel_rfl) (by kernel_rfl) (by kernel_rfl) (fun _ _ _ h => h) (Or.inl ⟨by rfl, ?_⟩) (by assumption) ?_
    rotate_left
    · (intro w0' hSw; (try dsimp only at hSw); go_simp; try with_reducible rfl)
    change wpAnyH _ _ _ _ _ _ _ (Act.put _ (some 9) _) _
    try simp only [Act.put, List.setIfInBounds_toArray, List.set_cons_zero, List.set_cons_succ]
    refine wpAnyH_take (i := 5) (oi := _) (v := undef) rfl (by kernel_rfl) (by kernel_rfl) (by kernel_rfl) (fun _ _ _ h => h) (Or.inr ⟨by rfl, rfl⟩) (by assumption) ?_
    change wpAnyH _ _ _ _ _ _ _ (Act.put _ (some 10) _) _
    try simp only [Act.put, List.setIfInBounds_toArray, List.set_cons_zero, List.set_cons_succ]
    refine wpAnyH_take (i := 6) (oi := _) (v := undef) rfl (by kernel_rfl) (by kernel_rfl) (by kernel_rfl) (fun _ _ _ h => h) (Or.inr ⟨by rfl, rfl⟩) (by assumption) ?_
    change wpAnyH _ _ _ _ _ _ _ (Act.put _ (some 11) _) _
    try simp only [Act.put, List.setIfInBounds_toArray, List.set_cons_zero, List.set_cons_succ]
    refine wpAnyH_take (i := 7) (oi := _) (v := undef) rfl (by kernel_rfl) (by kernel_rfl) (by kernel_rfl) (fun _ _ _ h => h) (Or.inr ⟨by rfl, rfl⟩) (by assumption) ?_
    change wpAnyH _ _ _ _ _ _ _ (Act.put _ (some 12) _) _
    try simp only [Act.put, List.setIfInBounds_toArray, List.set_cons_zero, List.set_cons_succ]
    refine wpAnyH_take (i := 8) (oi := _) (v := undef) rfl (by kernel_rfl) (by kernel_rfl) (by kernel_rfl) (fun _ _ _ h => h) (Or.inr ⟨by rfl, rfl⟩) (by assumption) ?_
    change wpAnyH _ _ _ _ _ _ _ (Act.put _ (some 13) _) _
    try simp only [Act.put, List.setIfInBounds_toArray, List.set_cons_zero, List.set_cons_succ]
    refine wpAnyH_take (i := 9) (oi := _) (v := undef) rfl (by kernel_rfl) (by kernel_rfl) (by kernel_rfl) (fun _ _ _ h => h) (Or.inr ⟨by rfl, rfl⟩) (by assumption) ?_
    change wpAnyH _ _ _ _ _ _ _ (Act.put _ (some 14) _) _
    try simp only [Act.put, List.setIfInBounds_toArray, List.set_cons_zero, List.set_cons_succ]
    refine wpAnyH_take (i := 10) (oi := _) (v := undef) rfl (by kernel_rfl) (by kernel_rfl) (by kernel_rfl) (fun _ _ _ h => h) (Or.inr ⟨by rfl, rfl⟩) (by assumption) ?_
    change wpAnyH _ _ _ _ _ _ _ (Act.put _ (some 15) _) _
    try simp only [Act.put, List.setIfInBounds_toArray, List.set_cons_zero, List.set_cons_succ]
    refine wpAnyH_take (i := 11) (oi := _) (v := undef) rfl (by kernel_rfl) (by kernel_rfl) (by kernel_rfl) (fun _ _ _ h => h) (Or.inr ⟨by rfl, rfl⟩) (by assumption) ?_
    change wpAnyH _ _ _ _ _ _ _ (Act.put _ (some 16) _) _
    try simp only [Act.put, List.setIfInBounds_toArray, List.set_cons_zero, List.set_cons_succ]
    refine wpAnyH_take (i := 12) (oi := _) (v := undef) rfl (by kernel_rfl) (by kernel_rfl) (by kernel_rfl) (fun _ _ _ h => h) (Or.inr ⟨by rfl, rfl⟩) (by assumption) ?_
    change wpAnyH _ _ _ _ _ _ _ (Act.put _ (some 17) _) _
    try simp only [Act.put, List.setIfInBounds_toArray, List.set_cons_zero, List.set_cons_succ]
    refine wpAnyH_take (i := 13) (oi := _) (v := undef) rfl (by kernel_rfl) (by kernel_rfl) (by kernel_rfl) (fun _ _ _ h => h) (Or.inr ⟨by rfl, rfl⟩) (by assumption) ?_
    change wpAnyH _ _ _ _ _ _ _ (Act.put _ (some 18) _) _
    try simp only [Act.put, List.setIfInBounds_toArray, List.set_cons_zero, List.set_cons_succ]
    refine wpAnyH_ready (rs := [14]) (by kernel_rfl) (by simp) ?_
    refine AllReadyH.cons (o := _) rfl (fun K' hK' => ?_) AllReadyH.nil
    rw [if_neg (by exact Bool.false_ne_true)]
    refine hK'.out _ _ (by assumption) (fun hHeld => ?_)
    clear hK' K'
    change wpAnyH _ _ _ _ _ _ _ (Act.put _ (some 19) _) _
    try simp only [Act.put, List.setIfInBounds_toArray, List.set_cons_zero, List.set_cons_succ]
    refine wpAnyH_take (i := 15) (oi := _) (v := undef) rfl (by kernel_rfl) (by kernel_rfl) (by kernel_rfl) (fun _ _ _ h => h) (Or.inr ⟨by rfl, rfl⟩) (by assumption) ?_
    change wpAnyH _ _ _ _ _ _ _ (Act.put _ (some 20) _) _
    try simp only [Act.put, List.setIfInBounds_toArray, List.set_cons_zero, List.set_cons_succ]
    refine wpAnyH_take (i := 16) (oi := _) (v := ?_) rfl (by kernel_rfl) (by kernel_rfl) (by kernel_rfl) (fun _ _ _ h => h) (Or.inl ⟨by rfl, ?_⟩) (by assumption) ?_
    rotate_left
    · (intro w0' hSw; (try dsimp only at hSw); go_simp; try with_reducible rfl)
    change wpAnyH _ _ _ _ _ _ _ (Act.put _ (some 21) _) _
    try simp only [Act.put, List.setIfInBounds_toArray, List.set_cons_zero, List.set_cons_succ]
    refine wpAnyH_take (i := 17) (oi := _) (v := ?_) rfl (by kernel_rfl) (by kernel_rfl) (by kernel_rfl) (fun _ _ _ h => h) (Or.inl ⟨by rfl, ?_⟩) (by assumption) ?_
    rotate_left
    · (intro w0' hSw; (try dsimp only at hSw); go_simp; try with_reducible rfl)
    change wpAnyH _ _ _ _ _ _ _ (Act.put _ (some 4) _) _
    try simp only [Act.put, List.setIfInBounds_toArray, List.set_cons_zero, List.set_cons_succ]
    refine wpAnyH_done (by kernel_rfl) ?_ _
    go_wp2_with fail
    go_ret
    exact ⟨rfl, C1.out.trans Q0.out⟩
  | true =>
    go_region_held3 (fun W' : World => W'.cell? ⟨w.heap.size, 0, none⟩ = some (.slice (some ⟨b, o, none⟩) n cp) ∧ W'.cell? ⟨w.heap.size, 1, none⟩ = some (.func (.func 22) #[] #[.pointer (some ⟨C, 0, none⟩)]) ∧ W'.cell? ⟨w.heap.size, 2, none⟩ = some (.func (.func 23) #[] #[.pointer (some ⟨M, 0, none⟩)]) ∧ W'.cell? ⟨b, o + i * 13 + 2, none⟩ = some (.int .u64 Y)) (first | exact KK.out _ Q0.out) (first
      | (go_at_call 23; refine (MA.out _ Q0.out).mono ?_; rintro e w1 ⟨rfl, rfl⟩)
      | (go_at_call 22; refine (CA.out _ Q0.out).mono ?_; rintro e w1 ⟨rfl, rfl⟩))
    go_wp2_with fail
    go_ret
    exact ⟨by simp, C1.out.trans Q0.out⟩

set_option maxHeartbeats 1000000 in
set_option maxRecDepth 100000 in
theorem saw_any (ds : List BalD) (lv : Value) (C M i safe : Nat) (w : World) (h : PollIn w ds lv C M) (hi : i < ds.length) :
    Calls Try.prog 30 #[pollV lv C M, .int .i64 (i : Int), .int .u64 (safe : Int)] w fun e w' => e = .returned (.bool (Vt.saw ds safe i)) ∧ Hid (Chg [] w w') := by
  obtain ⟨b, o, cp, rfl, hb, hl, _, hd⟩ := h.head (by omega)
  obtain ⟨wB, hwB⟩ : ∃ wB, wB = w.alloc (.cells #[.slice (some ⟨b, o, none⟩) ds.length cp, .func (.func 22) #[] #[.pointer (some ⟨C, 0, none⟩)], .func (.func 23) #[] #[.pointer (some ⟨M, 0, none⟩)]] 49) := ⟨_, rfl⟩
  have C1 : Chg [] w wB := by rw [hwB]; exact (Chg.refl _ _).alloc _
  have T := h.told
  have CA := Lib.hid (T.cs i hi wB C1)
  have B1 : Blk wB w.heap.size 49 [.slice (some ⟨b, o, none⟩) ds.length cp, .func (.func 22) #[] #[.pointer (some ⟨C, 0, none⟩)], .func (.func 23) #[] #[.pointer (some ⟨M, 0, none⟩)]] := by rw [hwB]; exact Blk.made w _ _
  obtain ⟨d, hdi⟩ : ∃ d, ds[i]? = some d := ⟨_, List.getElem?_eq_getElem hi⟩
  have ce := ((hd i d hdi).chg hb C1).c2
  have k0 := B1.cell (j := 0) rfl
  have k1 := B1.cell (j := 1) rfl
  have k2 := B1.cell (j := 2) rfl
  have EE : Vt.saw ds safe i = (Vt.cnt ds i && decide ((safe : Int) ≤ (d.s.ev : Int))) := by
    unfold Vt.saw
    rw [Vt.sp_at hdi]
    congr 1
    rw [Bool.eq_iff_iff, decide_eq_true_eq, decide_eq_true_eq]
    omega
  rw [EE]
  replace C1 := Lib.hid C1
  generalize Vt.cnt ds i = K at *
  generalize (safe : Int) = X at *
  generalize (d.s.ev : Int) = Y at *
  clear T EE B1 h hd hdi d
  generalize ds.length = n at *
  have h0 : (0 : Int) ≤ i := Int.natCast_nonneg _
  have h1 : (i : Int) < n := by omega
  unfold pollV
  rw [hwB] at CA k0 k1 k2 ce C1
  clear hwB
  clear wB
  cases K with
  | false =>
    go_enter Try.func30, Try.ntmps30
    go_wp2_with fail
    refine CA.out.mono ?_
    rintro e w1 ⟨rfl, rfl⟩
    go_wp2_with fail
    go_ret
    exact ⟨rfl, C1⟩
  | true =>
    go_enter Try.func30, Try.ntmps30
    go_wp2_with fail
    refine CA.out.mono ?_
    rintro e w1 ⟨rfl, rfl⟩
    go_wp2_with fail
    go_ret
    exact ⟨by simp, C1⟩

end Go.Proofs.Ytffpjefecmkfmaa
