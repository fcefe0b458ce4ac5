/-
  Choose. By an AI agent.
-/
import Derived.Test.YtffpjefecmkfmaaBVtVer
import Derived.Test.YtffpjefecmkfmaaBSpDec
namespace Go.Proofs.Ytffpjefecmkfmaa
open Go.RowKit

set_option maxHeartbeats 400000 in
theorem vwithin_any (n a b : Int) (w : World) : Calls Try.prog 14 #[.int .i64 n, .int .i64 a, .int .i64 b] w fun e w' => e = .returned (.bool (decide (a ≤ n ∧ n ≤ b))) ∧ w' = w := by
  by_cases h1 : a ≤ n
  · by_cases h2 : n ≤ b
    · rw [show decide (a ≤ n ∧ n ≤ b) = true from decide_eq_true ⟨h1, h2⟩]
      go_enter Try.func14, Try.ntmps14
      go_wp2_with fail
      go_ret
      exact ⟨rfl, rfl⟩
    · rw [show decide (a ≤ n ∧ n ≤ b) = false from decide_eq_false (fun h => h2 h.2)]
      go_enter Try.func14, Try.ntmps14
      go_wp2_with fail
      go_ret
      exact ⟨rfl, rfl⟩
  · rw [show decide (a ≤ n ∧ n ≤ b) = false from decide_eq_false (fun h => h1 h.1)]
    go_enter Try.func14, Try.ntmps14
    go_wp2_with fail
    go_ret
    exact ⟨rfl, rfl⟩

/-- What Choose tells. -/
def Chose (ds : List BalD) (w : World) (e : Ending) (w' : World) : Prop :=
  ∃ u, e = .returned (.tuple #[verdV (Vt.out ds) u (Vt.ch ds) (Vt.jn ds), .int .u16 (Vt.err ds : Int)]) ∧ Hid (w'.ownsRow w.heap.size 37 1 u (Vt.out ds).st.length ((Vt.out ds).st.map (Value.int .u8))) ∧ Hid (Chg [] w w')

/-- A refusal. -/
theorem chose_no {ds : List BalD} {w w' : World} {er : Int} (h : (Vt.err ds : Int) = er) (h0 : er ≠ 0) (c : Chg [] w w') : Chose ds w (.returned (.tuple #[.agg zero14.toArray, .int .u16 er])) w' := by
  have h1 : Vt.err ds ≠ 0 := by omega
  refine ⟨.slice none 0 0, ?_, ?_, c⟩
  · unfold Vt.out Vt.ch Vt.jn
    rw [if_neg h1, decide_eq_false h1, h]
    rfl
  · unfold Vt.out
    rw [if_neg h1]
    exact World.ownsRow_nil _ _ _ _

theorem zero14_one : ∀ v ∈ zero14, v.oneCell' = true := by
  intro v hv
  simp only [zero14, List.mem_cons, List.not_mem_nil, or_false] at hv
  rcases hv with rfl | rfl | rfl | rfl | rfl | rfl | rfl | rfl | rfl | rfl | rfl | rfl | rfl | rfl <;> rfl

set_option maxHeartbeats 8000000 in
set_option maxRecDepth 100000 in
theorem choose_any (ds : List BalD) (lv : Value) (w : World) (hv : Bals w lv ds) : Calls Try.prog 9 #[lv] w (Chose ds w) := by
  have HV := Lib.hid hv
  have hlen := hv.len
  obtain ⟨vo, vc, rfl⟩ := hv.slice
  clear hv
  have WA := Lib.hid (fun (W : World) => vwithin_any (ds.length : Int) 4 17 W)
  obtain ⟨wR, hwR⟩ : ∃ wR, wR = w.alloc (.cells #[.int .u64 0, .int .u64 0, .int .u64 0, .int .i64 0, .int .i64 0, .int .i64 0, .int .i64 0, .int .i64 0, .bool false, .bool false, .slice none 0 0, .int .i64 0, .bool false, .bool false] 31) := ⟨_, rfl⟩
  have CR : Hid (Chg [] w wR) := by show Chg _ _ _; rw [hwR]; exact (Chg.refl _ _).alloc _
  have RB : Hid (Blk wR w.heap.size 31 zero14) := by show Blk _ _ _ _; rw [hwR]; exact Blk.made w zero14 _
  have PS := Lib.hid size_verd
  have OZ := Lib.hid zero14_one
  have LZ : Hid (∀ W, Hid (Blk W w.heap.size 31 (lay zero14 0 zero14)) → Hid (Blk W w.heap.size 31 zero14)) := fun W h => h
  have FR : Hid (∀ wr W, Chg [] wR wr → Hid (Chg [w.heap.size] wr W) → Hid (Chg [] w W)) := fun wr W c k => (CR.out.trans c).fresh k.out (fun i hi => .inr (by rw [List.mem_singleton.1 hi]; exact Nat.le_refl _))
  have NOW : Hid (∀ W (er : Int), (Vt.err ds : Int) = er → er ≠ 0 → Chg [] w W → Chose ds w (.returned (.tuple #[.agg zero14.toArray, .int .u16 er])) W) := fun W er h1 h2 c => chose_no h1 h2 c
  by_cases hn : (4 : Int) ≤ (ds.length : Int) ∧ (ds.length : Int) ≤ 17
  case neg =>
    rw [decide_eq_false hn] at WA
    have ER : Hid ((Vt.err ds : Int) = 1) := by show _ = _; unfold Vt.err; rw [if_neg (fun h => hn (by omega))]; rfl
    replace hwR := Lib.hid hwR
    generalize ds.length = n at *
    clear hn
    go_enter Try.func9, Try.ntmps9
    go_wp2_with fail
    rw [← hwR.out]
    clear hwR
    go_wp2_with fail
    refine (WA.out wR).mono ?_
    rintro e w1 ⟨rfl, rfl⟩
    clear WA
    go_wp2_with (refine wpList_store_blk rfl _ _ _ rfl w.heap.size 0 31 zero14 zero14 rfl rfl RB.out (Nat.le_refl 14) PS.out OZ.out ?_; intro W B1 C1; have B2 := LZ.out W B1; have C2 := FR.out _ W (Chg.refl _ _) C1; clear B1 C1)
    refine bodyPost_ret (cell_and_tmp (ty := 31) rfl _ _ w.heap.size _ _ _ _ rfl B2.out Try.underlying31 size_verd) rfl ?_
    exact NOW.out W 1 ER.out (by decide) C2.out
  rw [decide_eq_true hn] at WA
  have h0 : 0 < ds.length := by omega
  have hn2 : 4 ≤ ds.length ∧ ds.length ≤ 17 := by omega
  have NP := Lib.hid (newPoll_any _ ds wR (HV.out.chg CR.out) h0)
  have EE : Vt.err ds = if Vt.refusal ds = 0 then (if Vt.away (Vt.won ds).st ≤ 1 then 0 else 152) else Vt.refusal ds := by unfold Vt.err; rw [if_pos hn2]
  have RA := Lib.hid (fun (C M : Nat) (W : World) (h : PollIn W ds (.slice vo ds.length vc) C M) => refusal_any ds _ C M W h h0)
  have VA := Lib.hid (fun (C M : Nat) (W : World) (hm : Vt.most ds ≠ 0) (h : PollIn W ds (.slice vo ds.length vc) C M) => verdict_any ds _ C M W h h0 hm)
  have hM : Vt.refusal ds = 0 → Vt.most ds ≠ 0 := fun h e => by
    unfold Vt.refusal at h
    rw [if_pos e] at h
    cases h
  have hWL : Vt.most ds ≠ 0 → (Vt.won ds).st.length ≤ 16 := fun h => by
    have q := (Vt.cnt_is (Vt.guide_cnt h)).ok
    have q1 := q.1.2.1
    have q2 := q.2.1.2.2.2.2.2.2.2.2
    show (Vt.stsTo ds _ _).length ≤ 16
    rw [Vt.stsTo_len]
    omega
  replace hwR := Lib.hid hwR
  replace EE := Lib.hid EE
  replace hM := Lib.hid hM
  replace hWL := Lib.hid hWL
  obtain ⟨n, hn3⟩ : ∃ n, n = ds.length := ⟨_, rfl⟩
  rw [← hn3] at WA NP RA VA hlen ⊢
  clear hn hn2 h0 hn3 HV
  go_enter Try.func9, Try.ntmps9
  go_wp2_with fail
  rw [← hwR.out]
  clear hwR
  go_wp2_with fail
  refine (WA.out wR).mono ?_
  rintro e wR ⟨rfl, rfl⟩
  clear WA
  go_wp2_with fail
  refine NP.out.mono ?_
  rintro e w2 ⟨C, M, rfl, PI, C2⟩
  clear NP
  obtain ⟨w3, hw3⟩ : ∃ w3, w3 = w2.alloc (.cells #[.slice vo n vc, .func (.func 22) #[] #[.pointer (some ⟨C, 0, none⟩)], .func (.func 23) #[] #[.pointer (some ⟨M, 0, none⟩)]] 49) := ⟨_, rfl⟩
  have C23 : Hid (Chg [] w2 w3) := by show Chg _ _ _; rw [hw3]; exact (Chg.refl _ _).alloc _
  have B3 : Hid (Blk w3 w2.heap.size 49 [.slice vo n vc, .func (.func 22) #[] #[.pointer (some ⟨C, 0, none⟩)], .func (.func 23) #[] #[.pointer (some ⟨M, 0, none⟩)]]) := by show Blk _ _ _ _; rw [hw3]; exact Blk.made w2 _ _
  have RS := Lib.hid (RA.out C M w3 (PI.out.chg C23.out))
  have C3 : Hid (Chg [] wR w3) := C2.out.trans C23.out
  have P3 : Hid (PollIn w3 ds (.slice vo n vc) C M) := PI.out.chg C23.out
  unfold pollV at *
  replace hw3 := Lib.hid hw3
  go_wp2_with fail
  rw [← hw3.out]
  refine RS.out.mono ?_
  rintro e w4 ⟨rfl, C34⟩
  have C4 : Hid (Chg [] wR w4) := C3.out.trans C34.out
  have P4 : Hid (PollIn w4 ds (.slice vo n vc) C M) := P3.out.chg C34.out
  have B4 : Hid (Blk w4 w2.heap.size 49 [.slice vo n vc, .func (.func 22) #[] #[.pointer (some ⟨C, 0, none⟩)], .func (.func 23) #[] #[.pointer (some ⟨M, 0, none⟩)]]) := B3.out.chg C34.out (by simp)
  generalize w2.heap.size = g4 at *
  clear RS RA C2 PI C23 B3 C3 P3 hw3 C34
  clear w3
  clear w2
  by_cases hr : Vt.refusal ds = 0
  case neg =>
    have ER : Hid ((Vt.err ds : Int) = (Vt.refusal ds : Int)) := by show _ = _; rw [EE.out, if_neg hr]
    have hr2 : ¬ (Vt.refusal ds : Int) = 0 := by omega
    have HR2 := Lib.hid hr2
    have RB4 : Hid (Blk w4 w.heap.size 31 zero14) := RB.out.chg C4.out (by simp)
    clear hr EE
    generalize (Vt.refusal ds : Int) = R at *
    go_wp2_with (refine wpList_store_blk rfl _ _ _ rfl w.heap.size 0 31 zero14 zero14 rfl rfl RB4.out (Nat.le_refl 14) PS.out OZ.out ?_; intro W B1 C1; have B2 := LZ.out W B1; have C2 := FR.out _ W C4.out C1; clear B1 C1)
    refine bodyPost_ret (cell_and_tmp (ty := 31) rfl _ _ w.heap.size _ _ _ _ rfl B2.out Try.underlying31 size_verd) rfl ?_
    exact NOW.out W R ER.out HR2.out C2.out
  have hmm := hM.out hr
  have VS := Lib.hid (VA.out C M w4 hmm P4.out)
  have hwl := hWL.out hmm
  have E2 : Hid (Vt.err ds = if Vt.away (Vt.won ds).st ≤ 1 then 0 else 152) := by show _ = _; rw [EE.out, if_pos hr]
  rw [hr]
  have k0 := B4.out.cell (j := 0) rfl
  have k1 := B4.out.cell (j := 1) rfl
  have k2 := B4.out.cell (j := 2) rfl
  clear hr EE hM hWL hmm VA P4
  go_wp2_with fail
  refine VS.out.mono ?_
  rintro e w5 ⟨u, rfl, OW, C45⟩
  have C5 : Hid (Chg [] wR w5) := C4.out.trans C45.out
  have FIN : Hid (∀ W, Vt.err ds = 0 → W.ownsRow w.heap.size 37 1 u (Vt.won ds).st.length ((Vt.won ds).st.map (Value.int .u8)) → Chg [] w W → Chose ds w (.returned (.tuple #[verdV (Vt.won ds) u (Vt.chTo ds (Vt.sp ds (Vt.guide ds)) (Vt.sp ds (Vt.guide ds)).st.length) (decide (Vt.guide ds = Vt.jr ds)), .int .u16 0])) W) := fun W h o c => by
    refine ⟨u, ?_, ?_, c⟩
    · unfold Vt.out Vt.ch Vt.jn
      rw [if_pos h, h, decide_eq_true (p := (0 : Nat) = 0) rfl, Bool.true_and, Bool.true_and]
      rfl
    · unfold Vt.out
      rw [if_pos h]
      exact o
  clear B4 k0 k1 k2 VS
  generalize Vt.chTo ds (Vt.sp ds (Vt.guide ds)) (Vt.sp ds (Vt.guide ds)).st.length = CB at *
  generalize decide (Vt.guide ds = Vt.jr ds) = JB at *
  generalize Vt.won ds = Z at *
  have SLu : Hid (Sl w5 u Z.st) := Sl.owned OW.out
  obtain ⟨uo, uc, rfl⟩ := owns_slice OW.out
  unfold verdV verdCells at *
  obtain ⟨w6, hw6⟩ : ∃ w6, w6 = w5.alloc (.cells #[.int .u64 (Z.id : Int), .int .u64 (Z.ev : Int), .int .u64 (Z.safe : Int), .int .i64 Z.role, .int .i64 Z.m, .int .i64 Z.c, .int .i64 Z.t, .int .i64 Z.ring, .bool Z.lazy, .bool Z.lost, .slice uo Z.st.length uc, .int .i64 Z.cur, .bool CB, .bool JB] 31) := ⟨_, rfl⟩
  have C56 : Hid (Chg [] w5 w6) := by show Chg _ _ _; rw [hw6]; exact (Chg.refl _ _).alloc _
  have B6 : Hid (Blk w6 w5.heap.size 31 [.int .u64 (Z.id : Int), .int .u64 (Z.ev : Int), .int .u64 (Z.safe : Int), .int .i64 Z.role, .int .i64 Z.m, .int .i64 Z.c, .int .i64 Z.t, .int .i64 Z.ring, .bool Z.lazy, .bool Z.lost, .slice uo Z.st.length uc, .int .i64 Z.cur, .bool CB, .bool JB]) := by show Blk _ _ _ _; rw [hw6]; exact Blk.made w5 _ _
  have MS := Lib.hid (missing_any _ Z.st w6 (SLu.out.chg C56.out (by simp)) (by omega))
  replace hw6 := Lib.hid hw6
  go_wp2_with fail
  rw [← hw6.out]
  refine MS.out.mono ?_
  rintro e w7 ⟨rfl, C67⟩
  have C57 : Hid (Chg [] w5 w7) := C56.out.trans C67.out
  have C7 : Hid (Chg [] wR w7) := C5.out.trans C57.out
  have B7 : Hid (Blk w7 w5.heap.size 31 [.int .u64 (Z.id : Int), .int .u64 (Z.ev : Int), .int .u64 (Z.safe : Int), .int .i64 Z.role, .int .i64 Z.m, .int .i64 Z.c, .int .i64 Z.t, .int .i64 Z.ring, .bool Z.lazy, .bool Z.lost, .slice uo Z.st.length uc, .int .i64 Z.cur, .bool CB, .bool JB]) := B6.out.chg C67.out (by simp)
  have OW7 : Hid (w7.ownsRow w4.heap.size 37 1 (.slice uo Z.st.length uc) Z.st.length (Z.st.map (Value.int .u8))) := owns_chg OW.out C57.out (by intro q hq; simp)
  have RB7 : Hid (Blk w7 w.heap.size 31 zero14) := RB.out.chg C7.out (by simp)
  generalize w5.heap.size = g6 at *
  clear MS C56 B6 C67 hw6 SLu C5 C45
  by_cases ha : Vt.away Z.st ≤ 1
  case neg =>
    have ER : Hid ((Vt.err ds : Int) = 152) := by show _ = _; rw [E2.out, if_neg ha]; rfl
    have ha2 : (1 : Int) < (Vt.away Z.st : Int) := by omega
    clear ha E2 FIN
    go_wp2_with (refine wpList_store_blk rfl _ _ _ rfl w.heap.size 0 31 zero14 zero14 rfl rfl RB7.out (Nat.le_refl 14) PS.out OZ.out ?_; intro W B1 C1; have B2 := LZ.out W B1; have C2 := FR.out _ W C7.out C1; clear B1 C1)
    refine bodyPost_ret (cell_and_tmp (ty := 31) rfl _ _ w.heap.size _ _ _ _ rfl B2.out Try.underlying31 size_verd) rfl ?_
    exact NOW.out W 152 ER.out (by decide) C2.out
  have ER : Hid (Vt.err ds = 0) := by show _ = _; rw [E2.out, if_pos ha]
  have ha2 : ¬ (1 : Int) < (Vt.away Z.st : Int) := by omega
  have C4S := C4.out.size
  have CRS := CR.out.size
  have HRL := RB.out.lt
  have F8 : Hid (∀ W, Hid (Blk W w.heap.size 31 (lay zero14 0 [.int .u64 (Z.id : Int), .int .u64 (Z.ev : Int), .int .u64 (Z.safe : Int), .int .i64 Z.role, .int .i64 Z.m, .int .i64 Z.c, .int .i64 Z.t, .int .i64 Z.ring, .bool Z.lazy, .bool Z.lost, .slice uo Z.st.length uc, .int .i64 Z.cur, .bool CB, .bool JB])) → Hid (Chg [w.heap.size] w7 W) → Hid (Blk W w.heap.size 31 [.int .u64 (Z.id : Int), .int .u64 (Z.ev : Int), .int .u64 (Z.safe : Int), .int .i64 Z.role, .int .i64 Z.m, .int .i64 Z.c, .int .i64 Z.t, .int .i64 Z.ring, .bool Z.lazy, .bool Z.lost, .slice uo Z.st.length uc, .int .i64 Z.cur, .bool CB, .bool JB]) ∧ Hid (Chose ds w (.returned (.tuple #[.agg #[.int .u64 (Z.id : Int), .int .u64 (Z.ev : Int), .int .u64 (Z.safe : Int), .int .i64 Z.role, .int .i64 Z.m, .int .i64 Z.c, .int .i64 Z.t, .int .i64 Z.ring, .bool Z.lazy, .bool Z.lost, .slice uo Z.st.length uc, .int .i64 Z.cur, .bool CB, .bool JB], .int .u16 0])) W)) := fun W B c1 => by
    have B := B.out
    rw [lay_all _ _ (by rfl)] at B
    have c2 := FR.out _ W C7.out c1
    refine ⟨B, FIN.out W ER.out (ownsRow_base (owns_chg OW7.out c1.out ?_) (by omega)) c2.out⟩
    intro q hq
    have := (OW7.out.lt q hq).1
    simp
    omega
  have OC : Hid (∀ v ∈ ([.int .u64 (Z.id : Int), .int .u64 (Z.ev : Int), .int .u64 (Z.safe : Int), .int .i64 Z.role, .int .i64 Z.m, .int .i64 Z.c, .int .i64 Z.t, .int .i64 Z.ring, .bool Z.lazy, .bool Z.lost, .slice uo Z.st.length uc, .int .i64 Z.cur, .bool CB, .bool JB] : List Value), v.oneCell' = true) := by
    intro v hv
    simp only [List.mem_cons, List.not_mem_nil, or_false] at hv
    rcases hv with rfl | rfl | rfl | rfl | rfl | rfl | rfl | rfl | rfl | rfl | rfl | rfl | rfl | rfl <;> rfl
  have y0 := B7.out.cell (j := 0) rfl
  have y1 := B7.out.cell (j := 1) rfl
  have y2 := B7.out.cell (j := 2) rfl
  have y3 := B7.out.cell (j := 3) rfl
  have y4 := B7.out.cell (j := 4) rfl
  have y5 := B7.out.cell (j := 5) rfl
  have y6 := B7.out.cell (j := 6) rfl
  have y7 := B7.out.cell (j := 7) rfl
  have y8 := B7.out.cell (j := 8) rfl
  have y9 := B7.out.cell (j := 9) rfl
  have y10 := B7.out.cell (j := 10) rfl
  have y11 := B7.out.cell (j := 11) rfl
  have y12 := B7.out.cell (j := 12) rfl
  have y13 := B7.out.cell (j := 13) rfl
  clear ha E2 FIN B7 OW7 C4S CRS HRL
  go_wp2_with (refine wpList_store_blk rfl _ _ _ rfl w.heap.size 0 31 zero14 [.int .u64 (Z.id : Int), .int .u64 (Z.ev : Int), .int .u64 (Z.safe : Int), .int .i64 Z.role, .int .i64 Z.m, .int .i64 Z.c, .int .i64 Z.t, .int .i64 Z.ring, .bool Z.lazy, .bool Z.lost, .slice uo Z.st.length uc, .int .i64 Z.cur, .bool CB, .bool JB] rfl rfl RB7.out (Nat.le_refl 14) PS.out OC.out ?_; intro W B1 C1; obtain ⟨B2, F9⟩ := F8.out W B1 C1; clear B1 C1 F8)
  refine bodyPost_ret (cell_and_tmp (ty := 31) rfl _ _ w.heap.size _ _ _ _ rfl B2.out Try.underlying31 size_verd) rfl ?_
  exact F9.out

end Go.Proofs.Ytffpjefecmkfmaa
