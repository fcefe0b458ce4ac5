/-
  The verdict. By an AI agent.
-/
import Derived.Test.YtffpjefecmkfmaaBVtVerR
import Derived.Test.YtffpjefecmkfmaaBSpSup
import Derived.Test.YtffpjefecmkfmaaBGOwnMem
import Derived.Deep.CutBlock
namespace Go.Proofs.Ytffpjefecmkfmaa
open Go.RowKit

theorem Vt.away_succ {st : List Int} {j : Nat} {x : Int} (h : st[j]? = some x) : Vt.away (st.take (j + 1)) = Vt.away (st.take j) + if x != 1 then 1 else 0 := by
  unfold Vt.away
  rw [List.take_add_one, h, List.countP_append]
  simp [List.countP_cons]

theorem Vt.away_le (st : List Int) : Vt.away st ≤ st.length := List.countP_le_length

set_option maxHeartbeats 1000000 in
set_option maxRecDepth 100000 in
theorem missing_any (v : Value) (st : List Int) (w : World) (hv : Sl w v st) (hl : st.length ≤ 1000) :
    Calls Try.prog 18 #[v] w fun e w' => e = .returned (.int .i64 (Vt.away st : Int)) ∧ Hid (Chg [] w w') := by
  have CL : Hid (∀ j, j < st.length → ∃ x b o c, v = .slice (some ⟨b, o, none⟩) st.length c ∧ st[j]? = some x ∧ w.cell? ⟨b, o + j, none⟩ = some (.int .u8 x)) := fun j hj => by
    rcases hv with ⟨rfl, _⟩ | ⟨b, o, c, rfl, _, h⟩
    · cases hj
    · refine ⟨st[j], b, o, c, rfl, List.getElem?_eq_getElem hj, ?_⟩
      rw [h j hj]
      simp [List.getD, List.getElem?_eq_getElem hj]
  obtain ⟨ao, cp, rfl⟩ := hv.slice
  obtain ⟨n, hn⟩ : ∃ n, n = st.length := ⟨_, rfl⟩
  have FIN : Hid (Vt.away (st.take n) = Vt.away st) := by show _ = _; rw [hn, List.take_length]
  rw [← hn] at CL hl ⊢
  have hn0 : (0 : Int) ≤ n := Int.natCast_nonneg _
  have hn1 : (n : Int) ≤ 1000 := by omega
  clear hv hn
  go_enter Try.func18, Try.ntmps18
  go_wp2_with fail
  go_loopw [8, 3] (fun i m wr => ∃ j k : Nat, j ≤ n ∧ i = .int .i64 (j : Int) ∧ m = .int .i64 (k : Int) ∧ k ≤ j ∧ Hid (Vt.away (st.take j) = k) ∧ Hid (Chg [] w wr)) (fun i _ _ => n - (intOf i).toNat)
  case atStart => exact ⟨0, 0, Nat.zero_le _, rfl, rfl, Nat.le_refl _, (by show Vt.away (st.take 0) = 0; rfl), Chg.refl _ _⟩
  case round =>
    obtain ⟨j, k, hj, rfl, rfl, hk, HK, C⟩ := hrel
    have hj0 : (0 : Int) ≤ j := Int.natCast_nonneg _
    have hk0 : (0 : Int) ≤ k := Int.natCast_nonneg _
    have hk1 : (k : Int) ≤ 1000 := by omega
    by_cases hlt : j < n
    · have hj1 : (j : Int) < n := by omega
      obtain ⟨x, b, o, c, hv, hx, hc⟩ := CL.out j hlt
      obtain ⟨rfl, rfl⟩ : ao = some ⟨b, o, none⟩ ∧ cp = c := by simpa using hv
      have hc2 : wr.cell? ⟨b, o + j, none⟩ = some (.int .u8 x) := (C.out.cell (p := ⟨b, o + j, none⟩) (World.block_lt_of_cell? w _ hc) (by simp)).trans hc
      have NX := Vt.away_succ hx
      rw [HK.out] at NX
      clear hx hc hv HK
      by_cases h1 : x = 1
      · have NX2 : Hid (Vt.away (st.take (j + 1)) = k) := by show _ = _; rw [NX, h1]; rfl
        subst h1
        clear NX
        go_wp2_with fail
        exact ⟨⟨j + 1, k, by omega, by go_num, rfl, by omega, NX2, C⟩, by simp [intOf]; omega⟩
      · have NX2 : Hid (Vt.away (st.take (j + 1)) = k + 1) := by
          show _ = _
          rw [NX, if_pos (by simpa using h1)]
        clear NX
        go_wp2_with fail
        exact ⟨⟨j + 1, k + 1, by omega, by go_num, by go_num, by omega, NX2, C⟩, by simp [intOf]; omega⟩
    · obtain rfl : j = n := by omega
      have E : (k : Int) = (Vt.away st : Int) := by rw [← FIN.out, HK.out]
      replace E := Lib.hid E
      go_wp2_with fail
      go_ret
      exact ⟨by rw [E.out]; rfl, C⟩

/-- A verdict's cells. -/
def verdCells (s : Sup) (u : Value) (c j : Bool) : List Value := [.int .u64 (s.id : Int), .int .u64 (s.ev : Int), .int .u64 (s.safe : Int), .int .i64 s.role, .int .i64 s.m, .int .i64 s.c, .int .i64 s.t, .int .i64 s.ring, .bool s.lazy, .bool s.lost, u, .int .i64 s.cur, .bool c, .bool j]

/-- A verdict as a value. -/
def verdV (s : Sup) (u : Value) (c j : Bool) : Value := .agg (verdCells s u c j).toArray

def zero14 : List Value := [.int .u64 0, .int .u64 0, .int .u64 0, .int .i64 0, .int .i64 0, .int .i64 0, .int .i64 0, .int .i64 0, .bool false, .bool false, .slice none 0 0, .int .i64 0, .bool false, .bool false]

def Verdicts (ds : List BalD) (w : World) (e : Ending) (w' : World) : Prop :=
  ∃ u, e = .returned (verdV (Vt.won ds) u (Vt.chTo ds (Vt.sp ds (Vt.guide ds)) (Vt.sp ds (Vt.guide ds)).st.length) (decide (Vt.guide ds = Vt.jr ds))) ∧ Hid (w'.ownsRow w.heap.size 37 1 u (Vt.won ds).st.length ((Vt.won ds).st.map (Value.int .u8))) ∧ Hid (Chg [] w w')

/-- The verdict under way: so many members have been looked at. -/
structure VerdSt (wB : World) (ds : List BalD) (s : Sup) (JN : Bool) (xb gS c j : Nat) (W : World) : Prop where
  bx : Blk W xb 31 (verdCells (Vt.vsup ds s JN j) (.slice (some ⟨gS, 0, none⟩) s.st.length c) (Vt.chTo ds s j) JN)
  ow : W.ownsRow wB.heap.size 37 1 (.slice (some ⟨gS, 0, none⟩) s.st.length c) s.st.length ((Vt.stsTo ds s j).map (Value.int .u8))
  ch : Chg [] wB W
  ne : gS ≠ xb
  hx : wB.heap.size ≤ xb

theorem VerdSt.chg {wB W W' : World} {ds : List BalD} {s : Sup} {JN : Bool} {xb gS c j : Nat} (h : VerdSt wB ds s JN xb gS c j W) (k : Chg [] W W') : VerdSt wB ds s JN xb gS c j W' :=
  ⟨h.bx.chg k (by simp), owns_chg h.ow k (by intro q hq; simp), h.ch.trans k, h.ne, h.hx⟩

theorem VerdSt.no {wB W : World} {ds : List BalD} {s : Sup} {JN : Bool} {xb gS c j : Nat} (h : VerdSt wB ds s JN xb gS c j W) (k : Vt.gone ds s j = false) : VerdSt wB ds s JN xb gS c (j + 1) W := by
  obtain ⟨h1, h2, h3, h4, h5⟩ := h
  have e1 := Vt.stsTo_succ k
  have e2 : Vt.chTo ds s (j + 1) = Vt.chTo ds s j := by rw [Vt.chTo_succ, k, Bool.or_false]
  have e3 : Vt.curTo ds s (j + 1) = Vt.curTo ds s j := by rw [Vt.curTo_succ, k]; rfl
  refine ⟨?_, ?_, h3, h4, h5⟩
  · unfold Vt.vsup
    rw [e1, e2, e3]
    exact h1
  · rw [e1]; exact h2

theorem VerdSt.yes {wB W : World} {ds : List BalD} {s : Sup} {JN : Bool} {xb gS c j : Nat} (h : VerdSt wB ds s JN xb gS c j W) (hj : j < s.st.length) (k : Vt.gone ds s j = true) (q : s.st.getD j 0 ≠ 3) : VerdSt wB ds s JN xb gS c (j + 1) ((W.setCell ⟨xb, 12, none⟩ (.bool true)).setCell ⟨gS, j, none⟩ (.int .u8 2)) := by
  obtain ⟨h1, h2, h3, h4, h5⟩ := h
  have e1 := Vt.stsTo_succ_gone k
  have e2 : Vt.chTo ds s (j + 1) = true := by rw [Vt.chTo_succ, k, Bool.or_true]
  have e3 : Vt.curTo ds s (j + 1) = Vt.curTo ds s j := by rw [Vt.curTo_succ, k, decide_eq_false q]; rfl
  have c1 : Chg [xb] W (W.setCell ⟨xb, 12, none⟩ (.bool true)) := (Chg.refl _ _).setCell (.inl (by simp)) _
  have o1 := owns_chg h2 c1 (by intro b hb; simp [Value.ownBlock] at hb; subst hb; simpa using h4)
  have hg := o1.lt gS rfl
  refine ⟨?_, ?_, (h3.setCell (.inr h5) _).setCell (.inr hg.1) _, h4, h5⟩
  · unfold Vt.vsup
    rw [e1, e2, e3]
    exact Blk.other (h1.set 12 (.bool true)) h4 _
  · rw [e1, List.map_set]
    exact (owns_set o1 hj (.int .u8 2)).1

theorem VerdSt.reb {wB W : World} {ds : List BalD} {s : Sup} {JN : Bool} {xb gS c j : Nat} (h : VerdSt wB ds s JN xb gS c j W) (hj : j < s.st.length) (k : Vt.gone ds s j = true) (q : s.st.getD j 0 = 3) : VerdSt wB ds s JN xb gS c (j + 1) (((W.setCell ⟨xb, 12, none⟩ (.bool true)).setCell ⟨gS, j, none⟩ (.int .u8 2)).setCell ⟨xb, 11, none⟩ (.int .i64 0)) := by
  obtain ⟨h1, h2, h3, h4, h5⟩ := h
  have e1 := Vt.stsTo_succ_gone k
  have e2 : Vt.chTo ds s (j + 1) = true := by rw [Vt.chTo_succ, k, Bool.or_true]
  have e3 : Vt.curTo ds s (j + 1) = 0 := by rw [Vt.curTo_succ, k, decide_eq_true q]; rfl
  have c1 : Chg [xb] W (W.setCell ⟨xb, 12, none⟩ (.bool true)) := (Chg.refl _ _).setCell (.inl (by simp)) _
  have o1 := owns_chg h2 c1 (by intro b hb; simp [Value.ownBlock] at hb; subst hb; simpa using h4)
  have hg := o1.lt gS rfl
  have o2 := (owns_set o1 hj (.int .u8 2)).1
  have c2 : Chg [xb] ((W.setCell ⟨xb, 12, none⟩ (.bool true)).setCell ⟨gS, j, none⟩ (.int .u8 2)) (((W.setCell ⟨xb, 12, none⟩ (.bool true)).setCell ⟨gS, j, none⟩ (.int .u8 2)).setCell ⟨xb, 11, none⟩ (.int .i64 0)) := (Chg.refl _ _).setCell (.inl (by simp)) _
  refine ⟨?_, ?_, ((h3.setCell (.inr h5) _).setCell (.inr hg.1) _).setCell (.inr h5) _, h4, h5⟩
  · unfold Vt.vsup
    rw [e1, e2, e3]
    exact (Blk.other (h1.set 12 (.bool true)) h4 _).set 11 (.int .i64 0)
  · rw [e1, List.map_set]
    exact owns_chg o2 c2 (by intro b hb; simp [Value.ownBlock] at hb; subst hb; simpa using h4)

/-- What the loop's round meets. -/
structure VerdAt (ds : List BalD) (s : Sup) (JN : Bool) (xb gS c j : Nat) (W : World) : Prop where
  a2 : W.cell? ⟨xb, 2, none⟩ = some (.int .u64 (s.safe : Int))
  f12 : W.frozen? ⟨xb, 12, none⟩ = false
  a12 : W.cell? ⟨xb, 12, none⟩ = some (.bool (Vt.chTo ds s j))
  aj : W.cell? ⟨gS, j, none⟩ = some (.int .u8 (s.st.getD j 0))
  b10 : (W.setCell ⟨xb, 12, none⟩ (.bool true)).cell? ⟨xb, 10, none⟩ = some (.slice (some ⟨gS, 0, none⟩) s.st.length c)
  bj : (W.setCell ⟨xb, 12, none⟩ (.bool true)).cell? ⟨gS, j, none⟩ = some (.int .u8 (s.st.getD j 0))
  fj : (W.setCell ⟨xb, 12, none⟩ (.bool true)).frozen? ⟨gS, j, none⟩ = false
  c11 : ((W.setCell ⟨xb, 12, none⟩ (.bool true)).setCell ⟨gS, j, none⟩ (.int .u8 2)).cell? ⟨xb, 11, none⟩ = some (.int .i64 (Vt.curTo ds s j))
  g11 : ((W.setCell ⟨xb, 12, none⟩ (.bool true)).setCell ⟨gS, j, none⟩ (.int .u8 2)).frozen? ⟨xb, 11, none⟩ = false

theorem VerdSt.meets {wB W : World} {ds : List BalD} {s : Sup} {JN : Bool} {xb gS c j : Nat} (h : VerdSt wB ds s JN xb gS c j W) (hj : j < s.st.length) : VerdAt ds s JN xb gS c j W := by
  obtain ⟨h1, h2, h3, h4, h5⟩ := h
  have c1 : Chg [xb] W (W.setCell ⟨xb, 12, none⟩ (.bool true)) := (Chg.refl _ _).setCell (.inl (by simp)) _
  have o1 := owns_chg h2 c1 (by intro b hb; simp [Value.ownBlock] at hb; subst hb; simpa using h4)
  have xj : ((Vt.stsTo ds s j).map (Value.int .u8))[j]? = some (.int .u8 (s.st.getD j 0)) := by rw [List.getElem?_map, Vt.stsTo_at hj]; rfl
  have b1 := h1.set 12 (.bool true)
  have b2 := Blk.other b1 (a := ⟨gS, j, none⟩) h4 (.int .u8 2)
  exact ⟨h1.cell (j := 2) rfl, h1.free 12, h1.cell (j := 12) rfl, ownsRow_cellAt h2 xj, b1.cell (j := 10) rfl, ownsRow_cellAt o1 xj, (owns_set o1 hj (.int .u8 2)).2.1, b2.cell (j := 11) rfl, b2.free 11⟩

set_option maxHeartbeats 8000000 in
set_option maxRecDepth 100000 in
theorem verdict_any (ds : List BalD) (lv : Value) (C M : Nat) (w : World) (h : PollIn w ds lv C M) (h0 : 0 < ds.length) (hm : Vt.most ds ≠ 0) :
    Calls Try.prog 17 #[pollV lv C M] w (Verdicts ds w) := by
  obtain ⟨b, o, cp, hlv, hb, hl, hcp, hd⟩ := h.head h0
  obtain ⟨wB, hwB⟩ : ∃ wB, wB = (w.alloc (.cells #[lv, .func (.func 22) #[] #[.pointer (some ⟨C, 0, none⟩)], .func (.func 23) #[] #[.pointer (some ⟨M, 0, none⟩)]] 49)).alloc (.cells #[.int .u64 0, .int .u64 0, .int .u64 0, .int .i64 0, .int .i64 0, .int .i64 0, .int .i64 0, .int .i64 0, .bool false, .bool false, .slice none 0 0, .int .i64 0, .bool false, .bool false] 31) := ⟨_, rfl⟩
  obtain ⟨B1, R1, C1⟩ := two_blocks w [lv, .func (.func 22) #[] #[.pointer (some ⟨C, 0, none⟩)], .func (.func 23) #[] #[.pointer (some ⟨M, 0, none⟩)]] zero14 49 31 hwB
  replace C1 := Lib.hid C1
  replace R1 := Lib.hid R1
  have KK : Hid (∀ W, Chg [] wB W → W.cell? ⟨w.heap.size, 0, none⟩ = some lv ∧ W.cell? ⟨w.heap.size, 1, none⟩ = some (.func (.func 22) #[] #[.pointer (some ⟨C, 0, none⟩)]) ∧ W.cell? ⟨w.heap.size, 2, none⟩ = some (.func (.func 23) #[] #[.pointer (some ⟨M, 0, none⟩)])) := fun W c => ⟨(B1.chg c (by simp)).cell (j := 0) rfl, (B1.chg c (by simp)).cell (j := 1) rfl, (B1.chg c (by simp)).cell (j := 2) rfl⟩
  have GA := Lib.hid (guide_any ds lv C M wB (h.chg C1.out) h0 hm)
  have JA := Lib.hid (fun (W : World) (c : Chg [] wB W) => journal_any ds lv C M W (h.chg (C1.out.trans c)) h0)
  have MA := Lib.hid (fun (W : World) (c : Chg [] wB W) => h.told.ms W (C1.out.trans c))
  have GC := Vt.guide_cnt hm
  have GI := Vt.cnt_is GC
  obtain ⟨g, hg⟩ : ∃ g, g = Vt.guide ds := ⟨_, rfl⟩
  unfold Verdicts Vt.won
  rw [← hg] at GC GI GA ⊢
  have hgn := GI.lt
  obtain ⟨d, hdg⟩ : ∃ d, ds[g]? = some d := ⟨_, List.getElem?_eq_getElem hgn⟩
  have es : Vt.sp ds g = d.s := Vt.sp_at hdg
  have hok := GI.ok
  have hms := GI.m
  rw [es] at hok hms ⊢
  have hst : d.s.st.length + 1 = ds.length := by
    have := hok.2.1.2.2.2.2.2.2.2.2
    omega
  have hst2 : d.s.st.length ≤ 16 := by have := hok.1.2.1; have := hok.2.1.2.2.2.2.2.2.2.2; omega
  have hst3 : 3 ≤ d.s.st.length := by have := hok.1.1; have := hok.2.1.2.2.2.2.2.2.2.2; omega
  have BI := hd g d hdg
  have CX0 : Hid (∀ W, Chg [] wB W → BalIn W b (o + g * 13) d) := fun W c => BI.chg hb (C1.out.trans c)
  have SA := Lib.hid (fun (i : Nat) (hi : i < d.s.st.length) (W : World) (c : Chg [] wB W) => saw_any ds lv C M i d.s.safe W (h.chg (C1.out.trans c)) (by omega))
  have JB : decide (g = Vt.jr ds) = ((g : Int) == (Vt.jr ds : Int)) := by
    rw [Bool.eq_iff_iff, decide_eq_true_eq, beq_iff_eq]
    omega
  obtain ⟨s, hs⟩ : ∃ s, s = d.s := ⟨_, rfl⟩
  have HSL : Hid (∃ bs os cs, d.u = .slice (some ⟨bs, os, none⟩) s.st.length cs ∧ ∀ W, Chg [] wB W → ∀ j, j < s.st.length → W.cell? ⟨bs, os + j, none⟩ = some (.int .u8 (s.st.getD j 0))) := by
    rw [hs]
    rcases BI.sl with ⟨e, _⟩ | ⟨bs, os, cs, e, hlt, q⟩
    · rw [e] at hst3; simp at hst3
    · exact ⟨bs, os, cs, e, fun W c j hj => ((C1.out.trans c).cell (p := ⟨bs, os + j, none⟩) hlt (by simp)).trans (q j hj)⟩
  have AT := Lib.hid (fun W c => (CX0.out W c).at13)
  rw [← hs] at hst hst2 hst3 SA AT ⊢
  rw [hlv] at hwB KK GA JA SA ⊢
  rw [JB]
  obtain ⟨n, hn⟩ : ∃ n, n = ds.length := ⟨_, rfl⟩
  rw [← hn] at hwB KK GA JA SA hgn hst hl ⊢
  generalize hJ : Vt.jr ds = J at *
  obtain ⟨JN, hJN⟩ : ∃ x, x = ((g : Int) == (J : Int)) := ⟨_, rfl⟩
  rw [← hJN]
  replace hJN := Lib.hid hJN
  obtain ⟨bs, os, uc, hu, ZS⟩ := HSL.out
  replace ZS := Lib.hid ZS
  rw [hu] at AT
  have HG := Lib.hid hgn
  clear hlv hd h hm GC GI hdg es hok hms BI CX0 B1 hs hn hJ hcp hb hg JB
  clear hu HSL
  unfold pollV at *
  obtain ⟨k0, k1, k2⟩ := KK.out wB (Chg.refl _ _)
  replace hwB := Lib.hid hwB
  go_enter Try.func17, Try.ntmps17
  go_wp2_with fail
  rw [← hwB.out]
  clear hwB
  go_wp2_with fail
  refine GA.out.mono ?_
  rintro e w2 ⟨rfl, C2⟩
  clear GA k0 k1 k2
  go_wp2_with fail
  refine region_cutQ _ (verd_region w2 w.heap.size (w.heap.size + 1) b o n cp C M g J s.st.length uc (some ⟨bs, os, none⟩) (s.id : Int) (s.ev : Int) (s.safe : Int) s.role s.m s.c s.t s.ring s.cur s.lazy s.lost [] _ _ _ _ _ _ _ _ _ _ _ _ _ _ _ _ _ _ _ _ _ _ _ _ _ _ _ _ _ _ _ _ _ _ _ _ _ _ _ _ _ _ _ _ _ _ _ _ _ _ _ _ _ _ _ _ _ _ _ _ _ _ HG.out (fun W c => ⟨KK.out W (C2.out.trans ((Chg.refl [] w2).drew.trans c)), (AT.out W (C2.out.trans ((Chg.refl [] w2).drew.trans c))).2⟩) (fun W c => JA.out W (C2.out.trans ((Chg.refl [] w2).drew.trans c))) (by kernel_rfl)) ?_
  rintro a' W ⟨xb, rfl, C3, BX, HX⟩
  have CW : Hid (Chg [] wB W) := C2.out.trans ((Chg.refl [] w2).drew.trans C3.out)
  have HXB : Hid (wB.heap.size ≤ xb) := Nat.le_trans C2.out.size HX.out
  clear C2 C3 HX AT JA
  rw [← hJN.out] at BX ⊢
  clear hJN
  have x3 := BX.out.cell (j := 3) rfl
  have f3 := BX.out.free 3
  go_upto_region 4 with fail
  have CW3 : Hid (Chg [] wB (W.setCell ⟨xb, 3, none⟩ (.int .i64 0))) := CW.out.setCell (.inr HXB.out) _
  have BX3 : Hid (Blk (W.setCell ⟨xb, 3, none⟩ (.int .i64 0)) xb 31 [.int .u64 (s.id : Int), .int .u64 (s.ev : Int), .int .u64 (s.safe : Int), .int .i64 0, .int .i64 s.m, .int .i64 s.c, .int .i64 s.t, .int .i64 s.ring, .bool s.lazy, .bool s.lost, .slice (some ⟨bs, os, none⟩) s.st.length uc, .int .i64 s.cur, .bool false, .bool JN]) := BX.out.set 3 _
  clear x3 f3 BX CW
  generalize W.setCell ⟨xb, 3, none⟩ (.int .i64 0) = W3 at *
  clear W
  obtain ⟨k0, k1, k2⟩ := KK.out W3 CW3.out
  have x1 := BX3.out.cell (j := 1) rfl
  have f1 := BX3.out.free 1
  go_upto_region 5 with (refine (MA.out W3 CW3.out).mono ?_; rintro e w4 ⟨rfl, rfl⟩)
  have CW4 : Hid (Chg [] wB (W3.setCell ⟨xb, 1, none⟩ (.int .u64 (Vt.most ds : Int)))) := CW3.out.setCell (.inr HXB.out) _
  have BX4 : Hid (Blk (W3.setCell ⟨xb, 1, none⟩ (.int .u64 (Vt.most ds : Int))) xb 31 [.int .u64 (s.id : Int), .int .u64 (Vt.most ds : Int), .int .u64 (s.safe : Int), .int .i64 0, .int .i64 s.m, .int .i64 s.c, .int .i64 s.t, .int .i64 s.ring, .bool s.lazy, .bool s.lost, .slice (some ⟨bs, os, none⟩) s.st.length uc, .int .i64 s.cur, .bool false, .bool JN]) := BX3.out.set 1 _
  clear x1 f1 k0 k1 k2 BX3 CW3 MA
  generalize W3.setCell ⟨xb, 1, none⟩ (.int .u64 (Vt.most ds : Int)) = W4 at *
  clear W3
  have x13 := BX4.out.cell (j := 13) rfl
  have x9 := BX4.out.cell (j := 9) rfl
  have f9 := BX4.out.free 9
  have x10 := BX4.out.cell (j := 10) rfl
  cases JN with
  | true =>
    go_upto_region 7 with fail
    have CW5 : Hid (Chg [] wB (W4.setCell ⟨xb, 9, none⟩ (.bool false))) := CW4.out.setCell (.inr HXB.out) _
    have BX5 : Hid (Blk (W4.setCell ⟨xb, 9, none⟩ (.bool false)) xb 31 [.int .u64 (s.id : Int), .int .u64 (Vt.most ds : Int), .int .u64 (s.safe : Int), .int .i64 0, .int .i64 s.m, .int .i64 s.c, .int .i64 s.t, .int .i64 s.ring, .bool s.lazy, .bool false, .slice (some ⟨bs, os, none⟩) s.st.length uc, .int .i64 s.cur, .bool false, .bool true]) := BX4.out.set 9 _
    clear x13 x9 f9 x10 BX4 CW4
    generalize W4.setCell ⟨xb, 9, none⟩ (.bool false) = W5 at *
    clear W4
    have x10 := BX5.out.cell (j := 10) rfl
    have f10 := BX5.out.free 10
    go_upto_region 8 with (refine (clone_states bs os s.st.length uc s.st W5 rfl (by omega) (ZS.out W5 CW5.out)).mono ?_; rintro e w6 ⟨v6, rfl, O6, C6⟩; have CW6 := Lib.hid (CW5.out.trans C6); replace O6 := Lib.hid O6; have BX6 := Lib.hid (BX5.out.chg C6 (by simp)); have y10 := BX6.out.cell (j := 10) rfl; have g10 := BX6.out.free 10; obtain ⟨vo, c, rfl⟩ := owns_slice O6.out; obtain ⟨gS, rfl⟩ := owns_head O6.out (by omega); clear C6)
    have ST : Hid (VerdSt wB ds s true xb gS c 0 (w6.setCell ⟨xb, 10, none⟩ (.slice (some ⟨gS, 0, none⟩) s.st.length c))) := by
      have hlt := (O6.out.lt gS rfl)
      have hxl := BX5.out.lt
      have ne : gS ≠ xb := by omega
      have c1 : Chg [xb] w6 (w6.setCell ⟨xb, 10, none⟩ (.slice (some ⟨gS, 0, none⟩) s.st.length c)) := (Chg.refl _ _).setCell (.inl (by simp)) _
      have q10 := BX6.out.set 10 (.slice (some ⟨gS, 0, none⟩) s.st.length c)
      have e9 : (s.lost && !true) = false := by cases s.lost <;> rfl
      refine ⟨?_, ?_, CW6.out.setCell (.inr HXB.out) _, ne, HXB.out⟩
      · unfold verdCells Vt.vsup
        dsimp only
        rw [e9]
        exact q10
      rw [Vt.stsTo_zero]
      exact ownsRow_base (owns_chg O6.out c1 (by intro b hb; simp [Value.ownBlock] at hb; subst hb; simpa using ne)) CW5.out.size
    clear x10 f10 y10 g10 BX6 CW6 O6 BX5 CW5 ZS
    generalize w6.setCell ⟨xb, 10, none⟩ (.slice (some ⟨gS, 0, none⟩) s.st.length c) = W7 at *
    clear w6 W5
    have x10 := ST.out.bx.cell (j := 10) rfl
    obtain ⟨n2, hn2⟩ : ∃ n2, n2 = s.st.length := ⟨_, rfl⟩
    replace hn2 := Lib.hid hn2
    go_wp2_with fail
    go_loopw [41] (fun i wr => ∃ j : Nat, j ≤ s.st.length ∧ i = .int .i64 (j : Int) ∧ Hid (VerdSt wB ds s true xb gS c j wr)) (fun i _ => s.st.length - (intOf i).toNat)
    case atStart => exact ⟨0, Nat.zero_le _, rfl, ST⟩
    case round =>
      obtain ⟨j, hj, rfl, VS⟩ := hrel
      clear ST x10
      have hj0 : (0 : Int) ≤ j := Int.natCast_nonneg _
      by_cases hlt : j < s.st.length
      · have hj1 : (j : Int) < s.st.length := by omega
        obtain ⟨a2, f12, a12, aj, b10, bj, fj, c11, g11⟩ := VS.out.meets hlt
        have GN : Hid (Vt.gone ds s j = (decide (s.st.getD j 0 ≠ 2) && !Vt.saw ds s.safe j)) := rfl
        obtain ⟨k0, k1, k2⟩ := KK.out wr VS.out.ch
        have SS := Lib.hid (SA.out j hlt wr VS.out.ch)
        obtain ⟨X, hX⟩ : ∃ X, X = s.st.getD j 0 := ⟨_, rfl⟩
        rw [← hX] at aj bj GN
        replace hX := Lib.hid hX
        by_cases h2 : X = 2
        · have V2 : Hid (VerdSt wB ds s true xb gS c (j + 1) wr) := VS.out.no (by rw [GN.out, decide_eq_false (fun h => h h2)]; rfl)
          subst h2
          clear VS b10 bj fj c11 g11 f12 a12 SS
          go_wp2_with fail
          exact ⟨⟨j + 1, by omega, by go_num, V2⟩, by simp [intOf]; omega⟩
        have e2 : decide (X ≠ 2) = true := decide_eq_true h2
        go_wp2_with fail
        refine SS.out.mono ?_
        rintro e w8 ⟨rfl, C8⟩
        clear SS a2 f12 a12 aj b10 bj fj c11 g11 k0 k1 k2
        replace VS := Lib.hid (VS.out.chg C8.out)
        clear C8
        cases hsw : Vt.saw ds s.safe j with
        | true =>
          have V2 : Hid (VerdSt wB ds s true xb gS c (j + 1) w8) := VS.out.no (by rw [GN.out, hsw, Bool.not_true, Bool.and_false])
          clear VS GN hsw
          go_wp2_with fail
          exact ⟨⟨j + 1, by omega, by go_num, V2⟩, by simp [intOf]; omega⟩
        | false =>
          have GT : Hid (Vt.gone ds s j = true) := by show _ = _; rw [GN.out, hsw, e2]; rfl
          clear GN hsw e2
          obtain ⟨a2, f12, a12, aj, b10, bj, fj, c11, g11⟩ := VS.out.meets hlt
          rw [← hX.out] at aj bj
          by_cases h3 : X = 3
          · have V2 := Lib.hid (VS.out.reb hlt GT.out (by rw [← hX.out]; exact h3))
            clear VS
            subst h3
            go_wp2_with fail
            exact ⟨⟨j + 1, by omega, by go_num, V2⟩, by simp [intOf]; omega⟩
          · have V2 := Lib.hid (VS.out.yes hlt GT.out (by rw [← hX.out]; exact h3))
            clear VS
            go_wp2_with fail
            exact ⟨⟨j + 1, by omega, by go_num, V2⟩, by simp [intOf]; omega⟩
      · obtain rfl : j = s.st.length := by omega
        have RB : Hid (Blk wr (w.heap.size + 1) 31 zero14) := R1.out.chg VS.out.ch (by simp)
        have FIN : Hid (∀ W, Hid (Blk W (w.heap.size + 1) 31 (lay zero14 0 [.int .u64 (s.id : Int), .int .u64 (Vt.most ds : Int), .int .u64 (s.safe : Int), .int .i64 0, .int .i64 s.m, .int .i64 s.c, .int .i64 s.t, .int .i64 s.ring, .bool s.lazy, .bool false, .slice (some ⟨gS, 0, none⟩) s.st.length c, .int .i64 (Vt.curTo ds s s.st.length), .bool (Vt.chTo ds s s.st.length), .bool true])) → Hid (Chg [w.heap.size + 1] wr W) → Hid (Blk W (w.heap.size + 1) 31 [.int .u64 (s.id : Int), .int .u64 (Vt.most ds : Int), .int .u64 (s.safe : Int), .int .i64 0, .int .i64 s.m, .int .i64 s.c, .int .i64 s.t, .int .i64 s.ring, .bool s.lazy, .bool false, .slice (some ⟨gS, 0, none⟩) s.st.length c, .int .i64 (Vt.curTo ds s s.st.length), .bool (Vt.chTo ds s s.st.length), .bool true]) ∧ Hid (W.ownsRow w.heap.size 37 1 (.slice (some ⟨gS, 0, none⟩) s.st.length c) (Vt.vsup ds s true s.st.length).st.length ((Vt.vsup ds s true s.st.length).st.map (Value.int .u8))) ∧ Hid (Chg [] w W)) := fun W B c1 => by
          have B := B.out
          rw [lay_all _ _ (by rfl)] at B
          have hR := R1.out.lt
          have hG := (VS.out.ow.lt gS rfl).1
          refine ⟨B, ?_, (C1.out.trans VS.out.ch).fresh c1.out (fun i hi => .inr (by rw [List.mem_singleton.1 hi]; omega))⟩
          show W.ownsRow _ _ _ _ (Vt.stsTo ds s s.st.length).length _
          rw [Vt.stsTo_len]
          exact ownsRow_base (owns_chg VS.out.ow c1.out (by intro b hb; simp [Value.ownBlock] at hb; subst hb; simp; omega)) C1.out.size
        have PS := Lib.hid size_verd
        have e9 : (s.lost && !true) = false := by cases s.lost <;> rfl
        have OC : Hid (∀ v ∈ ([.int .u64 (s.id : Int), .int .u64 (Vt.most ds : Int), .int .u64 (s.safe : Int), .int .i64 0, .int .i64 s.m, .int .i64 s.c, .int .i64 s.t, .int .i64 s.ring, .bool s.lazy, .bool false, .slice (some ⟨gS, 0, none⟩) s.st.length c, .int .i64 (Vt.curTo ds s s.st.length), .bool (Vt.chTo ds s s.st.length), .bool true] : List Value), v.oneCell' = true) := by
          intro v hv
          simp only [List.mem_cons, List.not_mem_nil, or_false] at hv
          rcases hv with rfl | rfl | rfl | rfl | rfl | rfl | rfl | rfl | rfl | rfl | rfl | rfl | rfl | rfl <;> rfl
        have y0 := VS.out.bx.cell (j := 0) rfl
        have y1 := VS.out.bx.cell (j := 1) rfl
        have y2 := VS.out.bx.cell (j := 2) rfl
        have y3 := VS.out.bx.cell (j := 3) rfl
        have y4 := VS.out.bx.cell (j := 4) rfl
        have y5 := VS.out.bx.cell (j := 5) rfl
        have y6 := VS.out.bx.cell (j := 6) rfl
        have y7 := VS.out.bx.cell (j := 7) rfl
        have y8 := VS.out.bx.cell (j := 8) rfl
        have y9 : wr.cell? ⟨xb, 9, none⟩ = some (.bool false) := by
          have := VS.out.bx.cell (j := 9) rfl
          rw [← e9]
          exact this
        replace e9 := Lib.hid e9
        have y10 := VS.out.bx.cell (j := 10) rfl
        have y11 := VS.out.bx.cell (j := 11) rfl
        have y12 := VS.out.bx.cell (j := 12) rfl
        have y13 := VS.out.bx.cell (j := 13) rfl
        simp only [Vt.vsup] at y0 y1 y2 y3 y4 y5 y6 y7 y8 y10 y11 y12 y13
        clear VS
        go_wp2_with (refine wpList_store_blk rfl _ _ _ rfl (w.heap.size + 1) 0 31 zero14 [.int .u64 (s.id : Int), .int .u64 (Vt.most ds : Int), .int .u64 (s.safe : Int), .int .i64 0, .int .i64 s.m, .int .i64 s.c, .int .i64 s.t, .int .i64 s.ring, .bool s.lazy, .bool false, .slice (some ⟨gS, 0, none⟩) s.st.length c, .int .i64 (Vt.curTo ds s s.st.length), .bool (Vt.chTo ds s s.st.length), .bool true] rfl rfl RB.out (Nat.le_refl 14) PS.out OC.out ?_; intro W B1 C1'; obtain ⟨B2, O2, C2⟩ := FIN.out W B1 C1'; clear B1 C1' FIN RB PS OC)
        refine bodyPost_ret (results_cell_row rfl _ _ (w.heap.size + 1) _ _ _ _ rfl B2.out Try.underlying31 rfl size_verd) rfl ?_
        exact ⟨_, by unfold verdV verdCells Vt.vsup; dsimp only; rw [e9.out], O2, C2⟩
  | false =>
    go_upto_region 7 with fail
    clear x13 x9 f9 x10
    have x10 := BX4.out.cell (j := 10) rfl
    have f10 := BX4.out.free 10
    go_upto_region 8 with (refine (clone_states bs os s.st.length uc s.st W4 rfl (by omega) (ZS.out W4 CW4.out)).mono ?_; rintro e w6 ⟨v6, rfl, O6, C6⟩; have CW6 := Lib.hid (CW4.out.trans C6); replace O6 := Lib.hid O6; have BX6 := Lib.hid (BX4.out.chg C6 (by simp)); have y10 := BX6.out.cell (j := 10) rfl; have g10 := BX6.out.free 10; obtain ⟨vo, c, rfl⟩ := owns_slice O6.out; obtain ⟨gS, rfl⟩ := owns_head O6.out (by omega); clear C6)
    have ST : Hid (VerdSt wB ds s false xb gS c 0 (w6.setCell ⟨xb, 10, none⟩ (.slice (some ⟨gS, 0, none⟩) s.st.length c))) := by
      have hlt := (O6.out.lt gS rfl)
      have hxl := BX4.out.lt
      have ne : gS ≠ xb := by omega
      have c1 : Chg [xb] w6 (w6.setCell ⟨xb, 10, none⟩ (.slice (some ⟨gS, 0, none⟩) s.st.length c)) := (Chg.refl _ _).setCell (.inl (by simp)) _
      have q10 := BX6.out.set 10 (.slice (some ⟨gS, 0, none⟩) s.st.length c)
      have e9 : (s.lost && !false) = s.lost := by cases s.lost <;> rfl
      refine ⟨?_, ?_, CW6.out.setCell (.inr HXB.out) _, ne, HXB.out⟩
      · unfold verdCells Vt.vsup
        dsimp only
        rw [e9]
        exact q10
      rw [Vt.stsTo_zero]
      exact ownsRow_base (owns_chg O6.out c1 (by intro b hb; simp [Value.ownBlock] at hb; subst hb; simpa using ne)) CW4.out.size
    clear x10 f10 y10 g10 BX6 CW6 O6 BX4 CW4 ZS
    generalize w6.setCell ⟨xb, 10, none⟩ (.slice (some ⟨gS, 0, none⟩) s.st.length c) = W7 at *
    clear w6 W4
    have x10 := ST.out.bx.cell (j := 10) rfl
    obtain ⟨n2, hn2⟩ : ∃ n2, n2 = s.st.length := ⟨_, rfl⟩
    replace hn2 := Lib.hid hn2
    go_wp2_with fail
    go_loopw [41] (fun i wr => ∃ j : Nat, j ≤ s.st.length ∧ i = .int .i64 (j : Int) ∧ Hid (VerdSt wB ds s false xb gS c j wr)) (fun i _ => s.st.length - (intOf i).toNat)
    case atStart => exact ⟨0, Nat.zero_le _, rfl, ST⟩
    case round =>
      obtain ⟨j, hj, rfl, VS⟩ := hrel
      clear ST x10
      have hj0 : (0 : Int) ≤ j := Int.natCast_nonneg _
      by_cases hlt : j < s.st.length
      · have hj1 : (j : Int) < s.st.length := by omega
        obtain ⟨a2, f12, a12, aj, b10, bj, fj, c11, g11⟩ := VS.out.meets hlt
        have GN : Hid (Vt.gone ds s j = (decide (s.st.getD j 0 ≠ 2) && !Vt.saw ds s.safe j)) := rfl
        obtain ⟨k0, k1, k2⟩ := KK.out wr VS.out.ch
        have SS := Lib.hid (SA.out j hlt wr VS.out.ch)
        obtain ⟨X, hX⟩ : ∃ X, X = s.st.getD j 0 := ⟨_, rfl⟩
        rw [← hX] at aj bj GN
        replace hX := Lib.hid hX
        by_cases h2 : X = 2
        · have V2 : Hid (VerdSt wB ds s false xb gS c (j + 1) wr) := VS.out.no (by rw [GN.out, decide_eq_false (fun h => h h2)]; rfl)
          subst h2
          clear VS b10 bj fj c11 g11 f12 a12 SS
          go_wp2_with fail
          exact ⟨⟨j + 1, by omega, by go_num, V2⟩, by simp [intOf]; omega⟩
        have e2 : decide (X ≠ 2) = true := decide_eq_true h2
        go_wp2_with fail
        refine SS.out.mono ?_
        rintro e w8 ⟨rfl, C8⟩
        clear SS a2 f12 a12 aj b10 bj fj c11 g11 k0 k1 k2
        replace VS := Lib.hid (VS.out.chg C8.out)
        clear C8
        cases hsw : Vt.saw ds s.safe j with
        | true =>
          have V2 : Hid (VerdSt wB ds s false xb gS c (j + 1) w8) := VS.out.no (by rw [GN.out, hsw, Bool.not_true, Bool.and_false])
          clear VS GN hsw
          go_wp2_with fail
          exact ⟨⟨j + 1, by omega, by go_num, V2⟩, by simp [intOf]; omega⟩
        | false =>
          have GT : Hid (Vt.gone ds s j = true) := by show _ = _; rw [GN.out, hsw, e2]; rfl
          clear GN hsw e2
          obtain ⟨a2, f12, a12, aj, b10, bj, fj, c11, g11⟩ := VS.out.meets hlt
          rw [← hX.out] at aj bj
          by_cases h3 : X = 3
          · have V2 := Lib.hid (VS.out.reb hlt GT.out (by rw [← hX.out]; exact h3))
            clear VS
            subst h3
            go_wp2_with fail
            exact ⟨⟨j + 1, by omega, by go_num, V2⟩, by simp [intOf]; omega⟩
          · have V2 := Lib.hid (VS.out.yes hlt GT.out (by rw [← hX.out]; exact h3))
            clear VS
            go_wp2_with fail
            exact ⟨⟨j + 1, by omega, by go_num, V2⟩, by simp [intOf]; omega⟩
      · obtain rfl : j = s.st.length := by omega
        have RB : Hid (Blk wr (w.heap.size + 1) 31 zero14) := R1.out.chg VS.out.ch (by simp)
        have FIN : Hid (∀ W, Hid (Blk W (w.heap.size + 1) 31 (lay zero14 0 [.int .u64 (s.id : Int), .int .u64 (Vt.most ds : Int), .int .u64 (s.safe : Int), .int .i64 0, .int .i64 s.m, .int .i64 s.c, .int .i64 s.t, .int .i64 s.ring, .bool s.lazy, .bool s.lost, .slice (some ⟨gS, 0, none⟩) s.st.length c, .int .i64 (Vt.curTo ds s s.st.length), .bool (Vt.chTo ds s s.st.length), .bool false])) → Hid (Chg [w.heap.size + 1] wr W) → Hid (Blk W (w.heap.size + 1) 31 [.int .u64 (s.id : Int), .int .u64 (Vt.most ds : Int), .int .u64 (s.safe : Int), .int .i64 0, .int .i64 s.m, .int .i64 s.c, .int .i64 s.t, .int .i64 s.ring, .bool s.lazy, .bool s.lost, .slice (some ⟨gS, 0, none⟩) s.st.length c, .int .i64 (Vt.curTo ds s s.st.length), .bool (Vt.chTo ds s s.st.length), .bool false]) ∧ Hid (W.ownsRow w.heap.size 37 1 (.slice (some ⟨gS, 0, none⟩) s.st.length c) (Vt.vsup ds s false s.st.length).st.length ((Vt.vsup ds s false s.st.length).st.map (Value.int .u8))) ∧ Hid (Chg [] w W)) := fun W B c1 => by
          have B := B.out
          rw [lay_all _ _ (by rfl)] at B
          have hR := R1.out.lt
          have hG := (VS.out.ow.lt gS rfl).1
          refine ⟨B, ?_, (C1.out.trans VS.out.ch).fresh c1.out (fun i hi => .inr (by rw [List.mem_singleton.1 hi]; omega))⟩
          show W.ownsRow _ _ _ _ (Vt.stsTo ds s s.st.length).length _
          rw [Vt.stsTo_len]
          exact ownsRow_base (owns_chg VS.out.ow c1.out (by intro b hb; simp [Value.ownBlock] at hb; subst hb; simp; omega)) C1.out.size
        have PS := Lib.hid size_verd
        have e9 : (s.lost && !false) = s.lost := by cases s.lost <;> rfl
        have OC : Hid (∀ v ∈ ([.int .u64 (s.id : Int), .int .u64 (Vt.most ds : Int), .int .u64 (s.safe : Int), .int .i64 0, .int .i64 s.m, .int .i64 s.c, .int .i64 s.t, .int .i64 s.ring, .bool s.lazy, .bool s.lost, .slice (some ⟨gS, 0, none⟩) s.st.length c, .int .i64 (Vt.curTo ds s s.st.length), .bool (Vt.chTo ds s s.st.length), .bool false] : List Value), v.oneCell' = true) := by
          intro v hv
          simp only [List.mem_cons, List.not_mem_nil, or_false] at hv
          rcases hv with rfl | rfl | rfl | rfl | rfl | rfl | rfl | rfl | rfl | rfl | rfl | rfl | rfl | rfl <;> rfl
        have y0 := VS.out.bx.cell (j := 0) rfl
        have y1 := VS.out.bx.cell (j := 1) rfl
        have y2 := VS.out.bx.cell (j := 2) rfl
        have y3 := VS.out.bx.cell (j := 3) rfl
        have y4 := VS.out.bx.cell (j := 4) rfl
        have y5 := VS.out.bx.cell (j := 5) rfl
        have y6 := VS.out.bx.cell (j := 6) rfl
        have y7 := VS.out.bx.cell (j := 7) rfl
        have y8 := VS.out.bx.cell (j := 8) rfl
        have y9 : wr.cell? ⟨xb, 9, none⟩ = some (.bool s.lost) := by
          have := VS.out.bx.cell (j := 9) rfl
          rw [← e9]
          exact this
        replace e9 := Lib.hid e9
        have y10 := VS.out.bx.cell (j := 10) rfl
        have y11 := VS.out.bx.cell (j := 11) rfl
        have y12 := VS.out.bx.cell (j := 12) rfl
        have y13 := VS.out.bx.cell (j := 13) rfl
        simp only [Vt.vsup] at y0 y1 y2 y3 y4 y5 y6 y7 y8 y10 y11 y12 y13
        clear VS
        go_wp2_with (refine wpList_store_blk rfl _ _ _ rfl (w.heap.size + 1) 0 31 zero14 [.int .u64 (s.id : Int), .int .u64 (Vt.most ds : Int), .int .u64 (s.safe : Int), .int .i64 0, .int .i64 s.m, .int .i64 s.c, .int .i64 s.t, .int .i64 s.ring, .bool s.lazy, .bool s.lost, .slice (some ⟨gS, 0, none⟩) s.st.length c, .int .i64 (Vt.curTo ds s s.st.length), .bool (Vt.chTo ds s s.st.length), .bool false] rfl rfl RB.out (Nat.le_refl 14) PS.out OC.out ?_; intro W B1 C1'; obtain ⟨B2, O2, C2⟩ := FIN.out W B1 C1'; clear B1 C1' FIN RB PS OC)
        refine bodyPost_ret (results_cell_row rfl _ _ (w.heap.size + 1) _ _ _ _ rfl B2.out Try.underlying31 rfl size_verd) rfl ?_
        exact ⟨_, by unfold verdV verdCells Vt.vsup; dsimp only; rw [e9.out], O2, C2⟩

end Go.Proofs.Ytffpjefecmkfmaa
