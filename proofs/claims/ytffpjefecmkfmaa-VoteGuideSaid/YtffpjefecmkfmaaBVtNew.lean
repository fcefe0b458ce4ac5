/-
  newPoll. By an AI agent.
-/
import Derived.Test.YtffpjefecmkfmaaBVtPoll
import Derived.Test.YtffpjefecmkfmaaBGArr
import Derived.Test.YtffpjefecmkfmaaBSpCon
import Derived.Deep.RegionLaw
import Derived.Deep.CutBlock
namespace Go.Proofs.Ytffpjefecmkfmaa
open Go.RowKit

def pollV (lv : Value) (C M : Nat) : Value := .agg #[lv, .func (.func 22) #[] #[.pointer (some ⟨C, 0, none⟩)], .func (.func 23) #[] #[.pointer (some ⟨M, 0, none⟩)]]

/-- A poll of these ballots. -/
structure PollIn (w : World) (ds : List BalD) (lv : Value) (C M : Nat) : Prop where
  bals : Bals w lv ds
  cs : ∃ G, w.cell? ⟨C, 0, none⟩ = some (.slice (some ⟨G, 0, none⟩) ds.length ds.length) ∧ ∀ i, i < ds.length → w.cell? ⟨G, i, none⟩ = some (.bool (Vt.cnt ds i))
  ms : w.cell? ⟨M, 0, none⟩ = some (.int .u64 (Vt.most ds : Int))

theorem PollIn.chg {w w' : World} {ds : List BalD} {lv : Value} {C M : Nat} (h : PollIn w ds lv C M) (c : Chg [] w w') : PollIn w' ds lv C M := by
  obtain ⟨h1, ⟨G, h2, h3⟩, h4⟩ := h
  have tr : ∀ (p : Addr) (u : Value), w.cell? p = some u → w'.cell? p = some u := fun p u h => (c.cell (World.block_lt_of_cell? w _ h) (by simp)).trans h
  exact ⟨h1.chg c, ⟨G, tr _ _ h2, fun i hi => tr _ _ (h3 i hi)⟩, tr _ _ h4⟩

/-- Which of the first j count. -/
def cntCells (ds : List BalD) (j : Nat) : List Value := (List.range ds.length).map fun k => Value.bool (decide (k < j) && Vt.cnt ds k)

theorem cntCells_len (ds : List BalD) (j : Nat) : (cntCells ds j).length = ds.length := by simp [cntCells]

theorem cntCells_at {ds : List BalD} {j i : Nat} (h : i < ds.length) : (cntCells ds j)[i]? = some (.bool (decide (i < j) && Vt.cnt ds i)) := by
  unfold cntCells
  rw [List.getElem?_map, List.getElem?_range h]
  rfl

theorem cntCells_zero (ds : List BalD) : cntCells ds 0 = List.replicate ds.length (.bool false) := by
  apply List.ext_getElem?
  intro i
  by_cases h : i < ds.length
  · rw [cntCells_at h, List.getElem?_replicate, if_pos h]
    simp
  · rw [List.getElem?_eq_none (by rw [cntCells_len]; omega), List.getElem?_eq_none (by simp; omega)]

theorem cntCells_succ {ds : List BalD} {j : Nat} : cntCells ds (j + 1) = if Vt.cnt ds j = true then (cntCells ds j).set j (.bool true) else cntCells ds j := by
  apply List.ext_getElem?
  intro i
  by_cases h : i < ds.length
  · rw [cntCells_at h]
    by_cases hc : Vt.cnt ds j = true
    · rw [if_pos hc, List.getElem?_set]
      by_cases e : j = i
      · subst e
        rw [if_pos rfl, if_pos (by rw [cntCells_len]; exact h), hc]
        simp
      · rw [if_neg e, cntCells_at h]
        congr 3
        apply decide_eq_decide.2
        omega
    · rw [if_neg hc, cntCells_at h]
      by_cases e : j = i
      · subst e
        simp [Bool.eq_false_iff.2 hc]
      · congr 3
        apply decide_eq_decide.2
        omega
  · rw [List.getElem?_eq_none (by rw [cntCells_len]; omega)]
    split
    · rw [List.getElem?_eq_none (by simp [cntCells_len]; omega)]
    · rw [List.getElem?_eq_none (by rw [cntCells_len]; omega)]

/-- The poll under way. -/
structure PollSt (w0 : World) (ds : List BalD) (lv : Value) (j L P G C M : Nat) (w : World) : Prop where
  bl : Blk w L 22 [lv]
  bp : Blk w P 49 [.slice none 0 0, .nilFunc, .nilFunc]
  bg : Blk w G 4 (cntCells ds j)
  bc : Blk w C 55 [.slice (some ⟨G, 0, none⟩) ds.length ds.length]
  bm : Blk w M 24 [.int .u64 (Vt.mostTo ds j : Int)]
  ch : Chg [] w0 w

theorem PollSt.next {w0 w w' : World} {ds : List BalD} {lv : Value} {j L P G C M : Nat} (h : PollSt w0 ds lv j L P G C M w) (h1 : G ≠ L ∧ G ≠ P ∧ G ≠ C ∧ G ≠ M ∧ M ≠ L ∧ M ≠ P ∧ M ≠ C) (hG : w0.heap.size ≤ G) (hM : w0.heap.size ≤ M)
    (k1 : Blk w' G 4 (if Vt.cnt ds j = true then (cntCells ds j).set j (.bool true) else cntCells ds j)) (k2 : Blk w' M 24 [.int .u64 ((if Vt.cnt ds j = true then max (Vt.mostTo ds j) (Vt.sp ds j).ev else Vt.mostTo ds j : Nat) : Int)]) (c : Chg [G, M] w w') : PollSt w0 ds lv (j + 1) L P G C M w' := by
  obtain ⟨a1, a2, a3, a4, a5, a6, a7⟩ := h1
  refine ⟨h.bl.chg c ?_, h.bp.chg c ?_, ?_, h.bc.chg c ?_, k2, h.ch.fresh c ?_⟩
  · simp; exact ⟨Ne.symm a1, Ne.symm a5⟩
  · simp; exact ⟨Ne.symm a2, Ne.symm a6⟩
  · rw [cntCells_succ]; exact k1
  · simp; exact ⟨Ne.symm a3, Ne.symm a7⟩
  · intro i hi
    rcases List.mem_cons.1 hi with rfl | hi
    · exact .inr hG
    · rw [List.mem_singleton.1 hi]; exact .inr hM

theorem info_boolv : (Try.prog.info? 4).map (fun i => (i.zero, i.size, i.bytes)) = some (some (.bool false), 1, 1) := by kernel_rfl

theorem size_poll : (Try.prog.info? 49).map (·.size) = some 3 := by kernel_rfl

theorem enters_enter (args : Array Value) (w : World) : (callFunc 20 args).run Try.prog w = .ok (.enter 20 args) w := by
  have h1 : (Try.f20.name == "runtime.NumGoroutine") = false := by kernel_rfl
  have h2 : Try.f20.body.isNone = false := by kernel_rfl
  have h3 : ¬ Try.f20.name = "runtime.NumGoroutine" := by simpa using h1
  have h4 : ¬ Try.f20.body = none := fun e => by rw [e] at h2; cases h2
  simp [callFunc, go_sem, Try.func20, h3, h4]

set_option maxHeartbeats 4000000 in
set_option maxRecDepth 100000 in
theorem newPoll_any (lv : Value) (ds : List BalD) (w : World) (hv : Bals w lv ds) (h0 : 0 < ds.length) :
    Calls Try.prog 15 #[lv] w fun e w' => ∃ C M, e = .returned (pollV lv C M) ∧ Hid (PollIn w' ds lv C M) ∧ Hid (Chg [] w w') := by
  have HV := Lib.hid hv
  obtain ⟨b, o, cp, rfl, hb, hl, -, -⟩ := hv.head h0
  clear hv
  obtain ⟨n, hn⟩ : ∃ n, n = ds.length := ⟨_, rfl⟩
  rw [← hn] at hl HV h0 ⊢
  obtain ⟨i0, ki, kz0, kz1, kz2⟩ := info_parts info_boolv
  replace ki := Lib.hid ki
  replace kz0 := Lib.hid kz0
  replace kz1 := Lib.hid kz1
  replace kz2 := Lib.hid kz2
  have hn0 : (0 : Int) ≤ n := Int.natCast_nonneg _
  have hn1 : (n : Int) ≤ 140737488355328 := by omega
  have hmf : ∀ (fn : Fn) (first cap : Array Value) (w : World), (Instr.makeFunc fn first cap).run Try.prog w = .ok (.func fn first cap) w := fun _ _ _ _ => rfl
  have HN := Lib.hid hn
  have HB := Lib.hid hb
  clear hn hb
  obtain ⟨lv, hlv⟩ : ∃ lv, lv = Value.slice (some ⟨b, o, none⟩) n cp := ⟨_, rfl⟩
  obtain ⟨wA, hwA⟩ : ∃ wA, wA = (w.alloc (.cells #[lv] 22)).alloc (.cells #[.slice none 0 0, .nilFunc, .nilFunc] 49) := ⟨_, rfl⟩
  have A0 : Hid (Blk wA w.heap.size 22 [lv] ∧ Blk wA (w.heap.size + 1) 49 [.slice none 0 0, .nilFunc, .nilFunc] ∧ Chg [] w wA ∧ wA.heap.size = w.heap.size + 2) := by
    have B1 := Blk.made w [lv] 22
    have B2 := Blk.made (w.alloc (.cells [lv].toArray 22)) [.slice none 0 0, .nilFunc, .nilFunc] 49
    rw [World.size_alloc] at B2
    rw [hwA]
    exact ⟨B1.alloc _, B2, ((Chg.refl _ _).alloc _).alloc _, by simp⟩
  rw [hlv] at hwA A0
  go_enter Try.func15, Try.ntmps15
  go_upto_region 4 with (at_make; rw [← hwA]; refine wpList_make_full _ rfl _ _ 55 rfl wA.heap.size 4 i0 (.bool false) 1 Try.underlying55 ki.out kz0.out kz1.out .i64 .i64 _ _ n rfl rfl rfl rfl (by rw [kz2.out]; omega) (by unfold maxLen; omega) (Nat.le_refl _) ?_; intro w1 ow gr; rw [made_replicate _ _ rfl] at ow; have BG := (Blk.owned ow).1; have C1 := Lib.hid ((Chg.refl [] wA).grown gr (fun k hk => by cases hk)); replace BG := Lib.hid BG; clear ow gr)
  obtain ⟨W4, hW4⟩ : ∃ W4, W4 = (w1.alloc (.cells #[.slice (some ⟨w.heap.size + 1 + 1, 0, none⟩) n n] 55)).alloc (.cells #[.int .u64 0] 24) := ⟨_, rfl⟩
  have ST : Hid (PollSt w ds (.slice (some ⟨b, o, none⟩) n cp) 0 w.heap.size (w.heap.size + 1) (w.heap.size + 1 + 1) w1.heap.size (w1.heap.size + 1) W4) := by
    obtain ⟨a1, a2, a3, a4⟩ := A0.out
    have c4 : Chg [] w1 W4 := by rw [hW4]; exact ((Chg.refl _ _).alloc _).alloc _
    have b3 := Blk.made w1 [.slice (some ⟨w.heap.size + 1 + 1, 0, none⟩) n n] 55
    have b4 := Blk.made (w1.alloc (.cells [.slice (some ⟨w.heap.size + 1 + 1, 0, none⟩) n n].toArray 55)) [.int .u64 0] 24
    rw [World.size_alloc] at b4
    refine ⟨(a1.chg C1.out (by simp)).chg c4 (by simp), (a2.chg C1.out (by simp)).chg c4 (by simp), ?_, ?_, ?_, (a3.trans C1.out).trans c4⟩
    · have := BG.out.chg c4 (by simp)
      rw [a4] at this
      rw [cntCells_zero, ← HN.out]
      exact this
    · rw [hW4, ← HN.out]; exact b3.alloc _
    · rw [hW4]; exact b4
  have NE : Hid (w.heap.size + 1 + 1 < w1.heap.size) := by
    have := BG.out.lt
    rw [A0.out.2.2.2] at this
    exact this
  have kL := ST.out.bl.cell (j := 0) rfl
  rw [← hW4]
  obtain ⟨C, hC⟩ : ∃ C, C = w1.heap.size := ⟨_, rfl⟩
  rw [← hC] at ST NE ⊢
  clear hW4 hC BG C1 A0 hwA ki kz0 kz1 kz2
  clear w1
  have H0 := Lib.hid h0
  clear h0
  go_wp2_with fail
  go_loopw [13] (fun i wr => ∃ j : Nat, j ≤ n ∧ i = .int .i64 (j : Int) ∧ Hid (PollSt w ds (.slice (some ⟨b, o, none⟩) n cp) j w.heap.size (w.heap.size + 1) (w.heap.size + 1 + 1) C (C + 1) wr)) (fun i _ => n - (intOf i).toNat)
  case atStart => exact ⟨0, Nat.zero_le _, rfl, ST⟩
  case round =>
    obtain ⟨j, hj, rfl, S⟩ := hrel
    have hj0 : (0 : Int) ≤ j := Int.natCast_nonneg _
    clear ST kL
    by_cases hlt : j < n
    · have hj1 : (j : Int) < n := by omega
      obtain ⟨d, hd⟩ : ∃ d, ds[j]? = some d := ⟨_, List.getElem?_eq_getElem (by rw [← HN.out]; exact hlt)⟩
      have EN : Hid (Calls Try.prog 20 #[.int .i64 (j : Int), .pointer (some ⟨w.heap.size, 0, none⟩), .pointer (some ⟨C, 0, none⟩), .pointer (some ⟨C + 1, 0, none⟩)] wr fun e w' => e = .returned (.tuple #[]) ∧ Hid (PollSt w ds (.slice (some ⟨b, o, none⟩) n cp) (j + 1) w.heap.size (w.heap.size + 1) (w.heap.size + 1 + 1) C (C + 1) w')) := by
        have hne := NE.out
        have hb := HB.out
        have BI : BalIn wr b (o + j * 13) d := by
          have q := HV.out.chg S.out.ch
          obtain ⟨b', o', e, _, h⟩ := q.at hd
          obtain ⟨rfl, rfl⟩ : b = b' ∧ o = o' := by simpa using e
          exact h
        refine (enter_any w.heap.size C (C + 1) (w.heap.size + 1 + 1) b o n cp j (cntCells ds j) (Vt.mostTo ds j) d wr (S.out.bl.cell (j := 0) rfl) (Nat.lt_of_lt_of_le hb S.out.ch.size) BI hlt hl ?_ S.out.bg S.out.bm ?_ (by omega) (by omega) (by omega)).mono ?_
        · have := S.out.bc.cell (j := 0) rfl
          rw [HN.out]
          exact this
        · rw [cntCells_len]; exact HN.out.symm
        · rintro e w' ⟨rfl, h⟩
          have hc : Vt.fineM d j ((n : Int) - 1) = Vt.cnt ds j := by
            rw [Vt.cnt_at hd, ← HN.out]
            rfl
          rw [hc, ← Vt.sp_at hd] at h
          exact ⟨rfl, S.out.next (by omega) (by omega) (by omega) h.out.1 h.out.2.1 h.out.2.2⟩
      clear hd S
      go_wp2_with fail
      refine EN.out.mono ?_
      rintro e w2 ⟨rfl, S2⟩
      clear EN
      go_wp2_with fail
      exact ⟨⟨j + 1, by omega, by go_num, S2⟩, by simp [intOf]; omega⟩
    · obtain rfl : j = n := by omega
      have kL := S.out.bl.cell (j := 0) rfl
      have fP := S.out.bp.free 0
      have FIN : Hid (∀ W, Hid (Blk W (w.heap.size + 1) 49 (lay [.slice none 0 0, .nilFunc, .nilFunc] 0 [.slice (some ⟨b, o, none⟩) j cp, .func (.func 22) #[] #[.pointer (some ⟨C, 0, none⟩)], .func (.func 23) #[] #[.pointer (some ⟨C + 1, 0, none⟩)]])) → Hid (Chg [w.heap.size + 1] wr W) →
          Hid (Blk W (w.heap.size + 1) 49 [.slice (some ⟨b, o, none⟩) j cp, .func (.func 22) #[] #[.pointer (some ⟨C, 0, none⟩)], .func (.func 23) #[] #[.pointer (some ⟨C + 1, 0, none⟩)]]) ∧ Hid (PollIn W ds (.slice (some ⟨b, o, none⟩) j cp) C (C + 1)) ∧ Hid (Chg [] w W)) := fun W B c1 => by
        have hne := NE.out
        replace c1 := c1.out
        have B := B.out
        rw [lay_all _ _ (by rfl)] at B
        have c2 : Chg [] w W := S.out.ch.fresh c1 (fun i hi => .inr (by rw [List.mem_singleton.1 hi]; omega))
        refine ⟨B, ⟨HV.out.chg c2, ⟨w.heap.size + 1 + 1, ?_, fun i hi => ?_⟩, ?_⟩, c2⟩
        · have := (S.out.bc.chg c1 (by simp; omega)).cell (j := 0) rfl
          exact this
        · have := (S.out.bg.chg c1 (by simp)).cell (cntCells_at hi)
          rw [this, decide_eq_true (by rw [HN.out]; exact hi), Bool.true_and]
        · have := (S.out.bm.chg c1 (by simp; omega)).cell (j := 0) rfl
          rw [this, HN.out]
          rfl
      have SB : Hid (Blk wr (w.heap.size + 1) 49 [.slice none 0 0, .nilFunc, .nilFunc]) := S.out.bp
      have PS := Lib.hid size_poll
      have OC : Hid (∀ v ∈ ([.slice (some ⟨b, o, none⟩) j cp, .func (.func 22) #[] #[.pointer (some ⟨C, 0, none⟩)], .func (.func 23) #[] #[.pointer (some ⟨C + 1, 0, none⟩)]] : List Value), v.oneCell' = true) := by
        intro v hv
        simp only [List.mem_cons, List.not_mem_nil, or_false] at hv
        rcases hv with rfl | rfl | rfl <;> rfl
      clear S
      go_wp2_with (refine wpList_store_blk rfl _ _ _ rfl (w.heap.size + 1) 0 49 _ [.slice (some ⟨b, o, none⟩) j cp, .func (.func 22) #[] #[.pointer (some ⟨C, 0, none⟩)], .func (.func 23) #[] #[.pointer (some ⟨C + 1, 0, none⟩)]] rfl rfl SB.out (by simp) PS.out OC.out ?_; intro W B1 C1; obtain ⟨B2, PI, C2⟩ := FIN.out W B1 C1; clear B1 C1 FIN SB PS OC)
      refine bodyPost_ret (results_cell_row rfl _ _ (w.heap.size + 1) _ _ _ _ rfl B2.out Try.underlying49 rfl size_poll) rfl ?_
      exact ⟨C, C + 1, rfl, PI, C2⟩

end Go.Proofs.Ytffpjefecmkfmaa
