/-
  VoteBlank. By an AI agent.
-/
import Derived.Test.YtffpjefecmkfmaaBVtSv
import Derived.Deep.CutBlock
namespace Go.Proofs.Ytffpjefecmkfmaa
open Go.RowKit

/-- The ballots so far: as they were, or none where one doesn't count. -/
structure BRel (ds : List BalD) (n : Nat) (ms : List BalD) : Prop where
  at_ : ∀ (k : Nat) d, ms[k]? = some d → ∃ d0, ds[k]? = some d0 ∧ ((d.has = d0.has ∧ d.s = d0.s) ∨ (d.has = false ∧ Vt.fine d0 k n = false))

theorem BRel.nil (ds : List BalD) (n : Nat) : BRel ds n [] := ⟨fun k d h => by simp at h⟩

theorem BRel.push {ds ms : List BalD} {n j : Nat} {d0 d : BalD} (h : BRel ds n ms) (hd : ds[j]? = some d0) (hl : ms.length = j) (k : (d.has = d0.has ∧ d.s = d0.s) ∨ (d.has = false ∧ Vt.fine d0 j n = false)) : BRel ds n (ms ++ [d]) := by
  refine ⟨fun i x hx => ?_⟩
  by_cases hi : i < ms.length
  · rw [List.getElem?_append_left hi] at hx
    exact h.at_ i x hx
  · rw [List.getElem?_append_right (by omega)] at hx
    have e0 : i - ms.length = 0 := by
      have := (List.getElem?_eq_some_iff.1 hx).1
      simp at this
      omega
    rw [e0] at hx
    obtain rfl : d = x := by simpa using hx
    have : i = j := by omega
    subst this
    exact ⟨d0, hd, k⟩

theorem BRel.same {ds ms : List BalD} {n j : Nat} {d0 d : BalD} (h : BRel ds n ms) (hd : ds[j]? = some d0) (hl : ms.length = j) (h1 : d.has = d0.has) (h2 : d.s = d0.s) : BRel ds n (ms ++ [d]) := h.push hd hl (.inl ⟨h1, h2⟩)

theorem BRel.bad {ds ms : List BalD} {n j : Nat} {d0 : BalD} {s : Sup} {u : Value} (h : BRel ds n ms) (hd : ds[j]? = some d0) (hl : ms.length = j) (k : Vt.fine d0 j n = false) : BRel ds n (ms ++ [⟨false, s, u⟩]) := h.push hd hl (.inr ⟨rfl, k⟩)

theorem BRel.cong {ds ms : List BalD} {n : Nat} (h : BRel ds n ms) (hn : n = ds.length) (hl : ms.length = n) : Vt.err ds = Vt.err ms ∧ Vt.out ds = Vt.out ms ∧ Vt.ch ds = Vt.ch ms ∧ Vt.jn ds = Vt.jn ms := by
  have key : ∀ i, i < n → ∃ d d0, ms[i]? = some d ∧ ds[i]? = some d0 ∧ ((d.has = d0.has ∧ d.s = d0.s) ∨ (d.has = false ∧ Vt.fine d0 i n = false)) := fun i hi => by
    have e : ms[i]? = some (ms[i]'(by omega)) := List.getElem?_eq_getElem _
    obtain ⟨d0, q1, q2⟩ := h.at_ i _ e
    exact ⟨_, d0, e, q1, q2⟩
  have hc : ∀ i, Vt.cnt ds i = Vt.cnt ms i := fun i => by
    by_cases hi : i < n
    · obtain ⟨d, d0, e1, e2, q⟩ := key i hi
      rw [Vt.cnt_at e1, Vt.cnt_at e2, ← hn, hl]
      rcases q with ⟨q1, q2⟩ | ⟨q1, q2⟩
      · unfold Vt.fine
        rw [q1, q2]
      · rw [q2]
        unfold Vt.fine
        rw [q1]
        simp
    · rw [Vt.cnt_out (by omega), Vt.cnt_out (by omega)]
  have hs : ∀ i, Vt.cnt ds i = true → Vt.sp ms i = Vt.sp ds i := fun i hi => by
    have hlt := Vt.cnt_lt hi
    obtain ⟨d, d0, e1, e2, q⟩ := key i (by omega)
    rw [Vt.sp_at e1, Vt.sp_at e2]
    rcases q with ⟨_, q2⟩ | ⟨_, q2⟩
    · exact q2
    · rw [Vt.cnt_at e2, ← hn, q2] at hi
      cases hi
  exact Vt.congr (by omega) hc (fun i hi => by rw [hs i hi]) (fun i j hi hj => by rw [hs i hi, hs j hj]) (fun h => hs _ h) (fun _ i hi => hs i hi)

theorem size_bal : (Try.prog.info? 39).map (·.size) = some 13 := by kernel_rfl

set_option maxHeartbeats 16000000 in
set_option maxRecDepth 100000 in
theorem voteBlank_core (lv : Value) (ds : List BalD) (w : World) (hv : Bals w lv ds) : Calls Try.prog 5 #[lv] w fun e w' => e = .returned (.bool true) ∧ Hid (Chg [] w w') := by
  have HV := Lib.hid hv
  have MU := Lib.hid (much_any lv ds w hv)
  obtain ⟨i0, ki, kz0, kz1, kz2⟩ := info_parts info_bal
  replace ki := Lib.hid ki
  replace kz0 := Lib.hid kz0
  replace kz1 := Lib.hid kz1
  replace kz2 := Lib.hid kz2
  have hlen := hv.len
  obtain ⟨vo, vc, rfl⟩ := hv.slice
  clear hv
  obtain ⟨n, hn⟩ : ∃ n, n = ds.length := ⟨_, rfl⟩
  rw [← hn] at MU hlen HV ⊢
  have HN := Lib.hid hn
  clear hn
  have hn0 : (0 : Int) ≤ n := Int.natCast_nonneg _
  go_enter Try.func5, Try.ntmps5
  go_wp2_with fail
  refine MU.out.mono ?_
  rintro e w1 ⟨bm, rfl, hmu, rfl⟩
  clear MU
  cases bm with
  | true =>
    go_wp2_with fail
    go_ret
    exact ⟨rfl, Chg.refl _ _⟩
  | false =>
  have hn9 : n ≤ 10000 := by have := hmu rfl; have := HN.out; omega
  clear hmu
  by_cases h0 : n = 0
  · have h00 : (n : Int) = 0 := by omega
    go_wp2_with fail
    go_ret
    exact ⟨rfl, Chg.refl _ _⟩
  have h00 : ¬ (n : Int) = 0 := by omega
  have H0 := Lib.hid h0
  have hn1 : (1 : Int) ≤ n := by omega
  have hn2 : (n : Int) ≤ 10000 := by omega
  clear h0
  have HAS : Hid (∀ j, j < n → ∃ d, ds[j]? = some d) := fun j hj => ⟨_, List.getElem?_eq_getElem (by have := HN.out; omega)⟩
  have BN : Hid (BRel ds n []) := BRel.nil ds n
  have hb0 : ((n : Int) == 0) = false := by simpa using h00
  go_wp2_with fail
  go_loopw [4, 3] (fun i v wr => ∃ (j : Nat) (mz : List BalD), j ≤ n ∧ i = .int .i64 (j : Int) ∧ Hid (mz.length = j) ∧ Hid (ARow w wr v mz) ∧ Hid (BRel ds n mz)) (fun i _ _ => n - (intOf i).toNat)
  case atStart => exact ⟨0, [], Nat.zero_le _, rfl, rfl, ARow.nil (Chg.refl _ _), BN⟩
  case round =>
    obtain ⟨j, mz, hj, rfl, LZ, R, RL⟩ := hrel
    clear BN
    have hj0 : (0 : Int) ≤ j := Int.natCast_nonneg _
    obtain ⟨mo, mc, rfl⟩ := R.out.slice
    by_cases hlt : j < n
    · have hj1 : (j : Int) < n := by omega
      obtain ⟨d, hd⟩ := HAS.out j hlt
      obtain ⟨b, o, e0, hb, BI⟩ := HV.out.at hd
      obtain rfl : vo = some ⟨b, o, none⟩ := e0
      obtain ⟨m0, m1, m2, m3, m4, m5, m6, m7, m8, m9, m10, m11, m12⟩ := (BI.chg hb R.out.ch).at13
      obtain ⟨uo, uc, hu⟩ := BI.sl.slice
      rw [hu] at m11
      have SLd := Lib.hid BI.sl
      rw [hu] at SLd
      have BGd := BI.big
      have FTd := Lib.hid BI.fit
      clear BI hu
      obtain ⟨wC, hwC⟩ : ∃ wC, wC = wr.alloc (.cells #[.bool d.has, .int .u64 (d.s.id : Int), .int .u64 (d.s.ev : Int), .int .u64 (d.s.safe : Int), .int .i64 d.s.role, .int .i64 d.s.m, .int .i64 d.s.c, .int .i64 d.s.t, .int .i64 d.s.ring, .bool d.s.lazy, .bool d.s.lost, .slice uo d.s.st.length uc, .int .i64 d.s.cur] 39) := ⟨_, rfl⟩
      have B5 : Hid (Blk wC wr.heap.size 39 [.bool d.has, .int .u64 (d.s.id : Int), .int .u64 (d.s.ev : Int), .int .u64 (d.s.safe : Int), .int .i64 d.s.role, .int .i64 d.s.m, .int .i64 d.s.c, .int .i64 d.s.t, .int .i64 d.s.ring, .bool d.s.lazy, .bool d.s.lost, .slice uo d.s.st.length uc, .int .i64 d.s.cur]) := by show Blk _ _ _ _; rw [hwC]; exact Blk.made wr _ _
      have C5 : Hid (Chg [] wr wC) := by show Chg _ _ _; rw [hwC]; exact (Chg.refl _ _).alloc _
      have RK := Lib.hid (refCheck_any d.s _ wC (SLd.out.chg (R.out.ch.trans C5.out) (by simp)) FTd.out.st BGd)
      replace hwC := Lib.hid hwC
      unfold Sup.val at RK
      go_wp2_with fail
      rw [← hwC.out]
      refine RK.out.mono ?_
      rintro e wq ⟨rfl, Cq⟩
      have BQ := Lib.hid (B5.out.chg Cq.out (by simp))
      have CQ := Lib.hid (C5.out.trans Cq.out)
      clear RK B5 C5 Cq hwC m0 m1 m2 m3 m4 m5 m6 m7 m8 m9 m10 m11 m12
      clear wC
      have k4 := BQ.out.cell (j := 4) rfl
      have k5 := BQ.out.cell (j := 5) rfl
      have EE : d.s.err = if d.s.Ok then 0 else 70 := rfl
      by_cases hok : d.s.Ok
      case neg =>
        rw [if_neg hok] at EE
        rw [EE]
        clear EE
        have B5z : Hid (∀ W, Hid (Blk W wr.heap.size 39 (lay [.bool d.has, .int .u64 (d.s.id : Int), .int .u64 (d.s.ev : Int), .int .u64 (d.s.safe : Int), .int .i64 d.s.role, .int .i64 d.s.m, .int .i64 d.s.c, .int .i64 d.s.t, .int .i64 d.s.ring, .bool d.s.lazy, .bool d.s.lost, .slice uo d.s.st.length uc, .int .i64 d.s.cur] 0 [.bool false, .int .u64 0, .int .u64 0, .int .u64 0, .int .i64 0, .int .i64 0, .int .i64 0, .int .i64 0, .int .i64 0, .bool false, .bool false, .slice none 0 0, .int .i64 0])) → Hid (Chg [wr.heap.size] wq W) → Hid (Blk W wr.heap.size 39 [.bool false, .int .u64 0, .int .u64 0, .int .u64 0, .int .i64 0, .int .i64 0, .int .i64 0, .int .i64 0, .int .i64 0, .bool false, .bool false, .slice none 0 0, .int .i64 0]) ∧ Hid (Chg [] wr W)) := fun W B c1 => by
          have B := B.out
          rw [lay_all _ _ (by rfl)] at B
          exact ⟨B, CQ.out.fresh c1.out (fun i hi => .inr (by rw [List.mem_singleton.1 hi]; exact Nat.le_refl _))⟩
        have PSb := Lib.hid size_bal
        have LEb : Hid (0 + ([.bool false, .int .u64 0, .int .u64 0, .int .u64 0, .int .i64 0, .int .i64 0, .int .i64 0, .int .i64 0, .int .i64 0, .bool false, .bool false, .slice none 0 0, .int .i64 0] : List Value).length ≤ ([.bool d.has, .int .u64 (d.s.id : Int), .int .u64 (d.s.ev : Int), .int .u64 (d.s.safe : Int), .int .i64 d.s.role, .int .i64 d.s.m, .int .i64 d.s.c, .int .i64 d.s.t, .int .i64 d.s.ring, .bool d.s.lazy, .bool d.s.lost, .slice uo d.s.st.length uc, .int .i64 d.s.cur] : List Value).length) := Nat.le_refl 13
        have OCb : Hid (∀ v ∈ ([.bool false, .int .u64 0, .int .u64 0, .int .u64 0, .int .i64 0, .int .i64 0, .int .i64 0, .int .i64 0, .int .i64 0, .bool false, .bool false, .slice none 0 0, .int .i64 0] : List Value), v.oneCell' = true) := by
          intro v hv
          simp only [List.mem_cons, List.not_mem_nil, or_false] at hv
          rcases hv with rfl | rfl | rfl | rfl | rfl | rfl | rfl | rfl | rfl | rfl | rfl | rfl | rfl <;> rfl
        go_upto_region 9 with fail
        go_upto_region 10 with (refine wpList_store_blk rfl _ _ _ rfl wr.heap.size 0 39 [.bool d.has, .int .u64 (d.s.id : Int), .int .u64 (d.s.ev : Int), .int .u64 (d.s.safe : Int), .int .i64 d.s.role, .int .i64 d.s.m, .int .i64 d.s.c, .int .i64 d.s.t, .int .i64 d.s.ring, .bool d.s.lazy, .bool d.s.lost, .slice uo d.s.st.length uc, .int .i64 d.s.cur] [.bool false, .int .u64 0, .int .u64 0, .int .u64 0, .int .i64 0, .int .i64 0, .int .i64 0, .int .i64 0, .int .i64 0, .bool false, .bool false, .slice none 0 0, .int .i64 0] rfl rfl BQ.out LEb.out PSb.out OCb.out ?_; intro w3 B1 C1; obtain ⟨B3, C3⟩ := B5z.out w3 B1 C1; clear B1 C1 B5z PSb OCb LEb)
        have RC := Lib.hid (R.out.chg C3.out)
        have y0 := B3.out.cell (j := 0) rfl
        have y1 := B3.out.cell (j := 1) rfl
        have y2 := B3.out.cell (j := 2) rfl
        have y3 := B3.out.cell (j := 3) rfl
        have y4 := B3.out.cell (j := 4) rfl
        have y5 := B3.out.cell (j := 5) rfl
        have y6 := B3.out.cell (j := 6) rfl
        have y7 := B3.out.cell (j := 7) rfl
        have y8 := B3.out.cell (j := 8) rfl
        have y9 := B3.out.cell (j := 9) rfl
        have y10 := B3.out.cell (j := 10) rfl
        have y11 := B3.out.cell (j := 11) rfl
        have y12 := B3.out.cell (j := 12) rfl
        clear R BQ CQ B3 C3
        generalize wr.heap.size = g5 at *
        obtain ⟨wX, hwX⟩ : ∃ wX, wX = w3.alloc (.cells #[.bool false, .int .u64 0, .int .u64 0, .int .u64 0, .int .i64 0, .int .i64 0, .int .i64 0, .int .i64 0, .int .i64 0, .bool false, .bool false, .slice none 0 0, .int .i64 0] 39) := ⟨_, rfl⟩
        have CX : Chg [] w3 wX := by rw [hwX]; exact (Chg.refl _ _).alloc _
        have BX : Blk wX w3.heap.size 39 (BalD.cells ⟨false, Sup.nil, .slice none 0 0⟩) := by rw [hwX]; exact Blk.made w3 _ _
        have RA := RC.out.chg CX
        have FIN : Hid (∀ v' w', w'.ownsRow w.heap.size 39 13 v' (mz.length + 1) (flat13 mz ++ (BalD.cells ⟨false, Sup.nil, .slice none 0 0⟩)) → wX.grownBy w' (Value.slice mo mz.length mc).ownBlock → (v'.ownBlock = (Value.slice mo mz.length mc).ownBlock ∨ (v'.ownBlock = some wX.heap.size ∧ wX.grownBy w' none)) → ARow w w' v' (mz ++ [⟨false, Sup.nil, .slice none 0 0⟩])) := fun v' w' o g hv => RA.app (ASt.blank false) o g hv
        have OWN : Hid (wX.ownsRow w.heap.size 39 13 (.slice mo mz.length mc) mz.length (flat13 mz)) := RA.row
        have NW : Hid (∀ (q : Nat) u, (BalD.cells ⟨false, Sup.nil, .slice none 0 0⟩)[q]? = some u → wX.cell? ((⟨w3.heap.size, 0, none⟩ : Addr).add q) = some u) := fun q u hu => by
          have e : (⟨w3.heap.size, 0, none⟩ : Addr).add q = ⟨w3.heap.size, q, none⟩ := by rw [Addr.add_lit, Nat.zero_add]
          rw [e]
          exact BX.cell hu
        have ONE : Hid (∀ u ∈ (BalD.cells ⟨false, Sup.nil, .slice none 0 0⟩), u.oneCell' = true) := by
          intro u hu
          simp only [BalD.cells, Sup.nil, List.mem_cons, List.not_mem_nil, or_false] at hu
          rcases hu with rfl | rfl | rfl | rfl | rfl | rfl | rfl | rfl | rfl | rfl | rfl | rfl | rfl <;> rfl
        have SZ : Hid (w.heap.size ≤ wX.heap.size) := RA.ch.size
        have hmz : mz.length ≤ 10000 := by have := LZ.out; omega
        replace hwX := Lib.hid hwX
        clear RC RA CX BX
        go_wp2_with (at_builtin; rw [← hwX.out]; refine wpList_append_three _ rfl _ _ 22 rfl w.heap.size 39 i0 _ 13 112 Try.underlying22 ki.out kz0.out kz1.out kz2.out rfl (by decide) _ mz.length (flat13 mz) rfl OWN.out ⟨w3.heap.size, 0, none⟩ 1 1 (BalD.cells ⟨false, Sup.nil, .slice none 0 0⟩) rfl rfl NW.out ONE.out (by unfold maxLen; omega) (by omega) SZ.out ?_; intro v' w' O1 G1 V1; have R2 := Lib.hid (FIN.out v' w' O1.out G1.out V1.out); clear O1 G1 V1 FIN OWN NW ONE SZ)
        have RL2 : Hid (BRel ds n (mz ++ [⟨false, Sup.nil, .slice none 0 0⟩])) := RL.out.bad hd LZ.out (by unfold Vt.fine; rw [decide_eq_false hok]; simp)
        exact ⟨⟨j + 1, mz ++ [⟨false, Sup.nil, .slice none 0 0⟩], by omega, by go_num, (by show _ = _; simp [LZ.out]), R2, RL2⟩, by simp [intOf]; omega⟩
      rw [if_pos hok] at EE
      rw [EE]
      clear EE
      by_cases hr : d.s.role = (j : Int)
      case neg =>
        have HR := Lib.hid hr
        have B5z : Hid (∀ W, Hid (Blk W wr.heap.size 39 (lay [.bool d.has, .int .u64 (d.s.id : Int), .int .u64 (d.s.ev : Int), .int .u64 (d.s.safe : Int), .int .i64 d.s.role, .int .i64 d.s.m, .int .i64 d.s.c, .int .i64 d.s.t, .int .i64 d.s.ring, .bool d.s.lazy, .bool d.s.lost, .slice uo d.s.st.length uc, .int .i64 d.s.cur] 0 [.bool false, .int .u64 0, .int .u64 0, .int .u64 0, .int .i64 0, .int .i64 0, .int .i64 0, .int .i64 0, .int .i64 0, .bool false, .bool false, .slice none 0 0, .int .i64 0])) → Hid (Chg [wr.heap.size] wq W) → Hid (Blk W wr.heap.size 39 [.bool false, .int .u64 0, .int .u64 0, .int .u64 0, .int .i64 0, .int .i64 0, .int .i64 0, .int .i64 0, .int .i64 0, .bool false, .bool false, .slice none 0 0, .int .i64 0]) ∧ Hid (Chg [] wr W)) := fun W B c1 => by
          have B := B.out
          rw [lay_all _ _ (by rfl)] at B
          exact ⟨B, CQ.out.fresh c1.out (fun i hi => .inr (by rw [List.mem_singleton.1 hi]; exact Nat.le_refl _))⟩
        have PSb := Lib.hid size_bal
        have LEb : Hid (0 + ([.bool false, .int .u64 0, .int .u64 0, .int .u64 0, .int .i64 0, .int .i64 0, .int .i64 0, .int .i64 0, .int .i64 0, .bool false, .bool false, .slice none 0 0, .int .i64 0] : List Value).length ≤ ([.bool d.has, .int .u64 (d.s.id : Int), .int .u64 (d.s.ev : Int), .int .u64 (d.s.safe : Int), .int .i64 d.s.role, .int .i64 d.s.m, .int .i64 d.s.c, .int .i64 d.s.t, .int .i64 d.s.ring, .bool d.s.lazy, .bool d.s.lost, .slice uo d.s.st.length uc, .int .i64 d.s.cur] : List Value).length) := Nat.le_refl 13
        have OCb : Hid (∀ v ∈ ([.bool false, .int .u64 0, .int .u64 0, .int .u64 0, .int .i64 0, .int .i64 0, .int .i64 0, .int .i64 0, .int .i64 0, .bool false, .bool false, .slice none 0 0, .int .i64 0] : List Value), v.oneCell' = true) := by
          intro v hv
          simp only [List.mem_cons, List.not_mem_nil, or_false] at hv
          rcases hv with rfl | rfl | rfl | rfl | rfl | rfl | rfl | rfl | rfl | rfl | rfl | rfl | rfl <;> rfl
        go_upto_region 9 with fail
        go_upto_region 10 with (refine wpList_store_blk rfl _ _ _ rfl wr.heap.size 0 39 [.bool d.has, .int .u64 (d.s.id : Int), .int .u64 (d.s.ev : Int), .int .u64 (d.s.safe : Int), .int .i64 d.s.role, .int .i64 d.s.m, .int .i64 d.s.c, .int .i64 d.s.t, .int .i64 d.s.ring, .bool d.s.lazy, .bool d.s.lost, .slice uo d.s.st.length uc, .int .i64 d.s.cur] [.bool false, .int .u64 0, .int .u64 0, .int .u64 0, .int .i64 0, .int .i64 0, .int .i64 0, .int .i64 0, .int .i64 0, .bool false, .bool false, .slice none 0 0, .int .i64 0] rfl rfl BQ.out LEb.out PSb.out OCb.out ?_; intro w3 B1 C1; obtain ⟨B3, C3⟩ := B5z.out w3 B1 C1; clear B1 C1 B5z PSb OCb LEb)
        have RC := Lib.hid (R.out.chg C3.out)
        have y0 := B3.out.cell (j := 0) rfl
        have y1 := B3.out.cell (j := 1) rfl
        have y2 := B3.out.cell (j := 2) rfl
        have y3 := B3.out.cell (j := 3) rfl
        have y4 := B3.out.cell (j := 4) rfl
        have y5 := B3.out.cell (j := 5) rfl
        have y6 := B3.out.cell (j := 6) rfl
        have y7 := B3.out.cell (j := 7) rfl
        have y8 := B3.out.cell (j := 8) rfl
        have y9 := B3.out.cell (j := 9) rfl
        have y10 := B3.out.cell (j := 10) rfl
        have y11 := B3.out.cell (j := 11) rfl
        have y12 := B3.out.cell (j := 12) rfl
        clear R BQ CQ B3 C3
        generalize wr.heap.size = g5 at *
        obtain ⟨wX, hwX⟩ : ∃ wX, wX = w3.alloc (.cells #[.bool false, .int .u64 0, .int .u64 0, .int .u64 0, .int .i64 0, .int .i64 0, .int .i64 0, .int .i64 0, .int .i64 0, .bool false, .bool false, .slice none 0 0, .int .i64 0] 39) := ⟨_, rfl⟩
        have CX : Chg [] w3 wX := by rw [hwX]; exact (Chg.refl _ _).alloc _
        have BX : Blk wX w3.heap.size 39 (BalD.cells ⟨false, Sup.nil, .slice none 0 0⟩) := by rw [hwX]; exact Blk.made w3 _ _
        have RA := RC.out.chg CX
        have FIN : Hid (∀ v' w', w'.ownsRow w.heap.size 39 13 v' (mz.length + 1) (flat13 mz ++ (BalD.cells ⟨false, Sup.nil, .slice none 0 0⟩)) → wX.grownBy w' (Value.slice mo mz.length mc).ownBlock → (v'.ownBlock = (Value.slice mo mz.length mc).ownBlock ∨ (v'.ownBlock = some wX.heap.size ∧ wX.grownBy w' none)) → ARow w w' v' (mz ++ [⟨false, Sup.nil, .slice none 0 0⟩])) := fun v' w' o g hv => RA.app (ASt.blank false) o g hv
        have OWN : Hid (wX.ownsRow w.heap.size 39 13 (.slice mo mz.length mc) mz.length (flat13 mz)) := RA.row
        have NW : Hid (∀ (q : Nat) u, (BalD.cells ⟨false, Sup.nil, .slice none 0 0⟩)[q]? = some u → wX.cell? ((⟨w3.heap.size, 0, none⟩ : Addr).add q) = some u) := fun q u hu => by
          have e : (⟨w3.heap.size, 0, none⟩ : Addr).add q = ⟨w3.heap.size, q, none⟩ := by rw [Addr.add_lit, Nat.zero_add]
          rw [e]
          exact BX.cell hu
        have ONE : Hid (∀ u ∈ (BalD.cells ⟨false, Sup.nil, .slice none 0 0⟩), u.oneCell' = true) := by
          intro u hu
          simp only [BalD.cells, Sup.nil, List.mem_cons, List.not_mem_nil, or_false] at hu
          rcases hu with rfl | rfl | rfl | rfl | rfl | rfl | rfl | rfl | rfl | rfl | rfl | rfl | rfl <;> rfl
        have SZ : Hid (w.heap.size ≤ wX.heap.size) := RA.ch.size
        have hmz : mz.length ≤ 10000 := by have := LZ.out; omega
        replace hwX := Lib.hid hwX
        clear RC RA CX BX
        go_wp2_with (at_builtin; rw [← hwX.out]; refine wpList_append_three _ rfl _ _ 22 rfl w.heap.size 39 i0 _ 13 112 Try.underlying22 ki.out kz0.out kz1.out kz2.out rfl (by decide) _ mz.length (flat13 mz) rfl OWN.out ⟨w3.heap.size, 0, none⟩ 1 1 (BalD.cells ⟨false, Sup.nil, .slice none 0 0⟩) rfl rfl NW.out ONE.out (by unfold maxLen; omega) (by omega) SZ.out ?_; intro v' w' O1 G1 V1; have R2 := Lib.hid (FIN.out v' w' O1.out G1.out V1.out); clear O1 G1 V1 FIN OWN NW ONE SZ)
        have RL2 : Hid (BRel ds n (mz ++ [⟨false, Sup.nil, .slice none 0 0⟩])) := RL.out.bad hd LZ.out (by unfold Vt.fine; rw [decide_eq_false HR.out]; simp)
        exact ⟨⟨j + 1, mz ++ [⟨false, Sup.nil, .slice none 0 0⟩], by omega, by go_num, (by show _ = _; simp [LZ.out]), R2, RL2⟩, by simp [intOf]; omega⟩
      have hr2 := Lib.hid hr
      have hw1 : IntKind.i64.wrap ((n : Int) - 1) = (n : Int) - 1 := by rw [IntKind.wrap_i64]; omega
      by_cases hm : d.s.m = (n : Int) - 1
      case neg =>
        have HM := Lib.hid hm
        have B5z : Hid (∀ W, Hid (Blk W wr.heap.size 39 (lay [.bool d.has, .int .u64 (d.s.id : Int), .int .u64 (d.s.ev : Int), .int .u64 (d.s.safe : Int), .int .i64 d.s.role, .int .i64 d.s.m, .int .i64 d.s.c, .int .i64 d.s.t, .int .i64 d.s.ring, .bool d.s.lazy, .bool d.s.lost, .slice uo d.s.st.length uc, .int .i64 d.s.cur] 0 [.bool false, .int .u64 0, .int .u64 0, .int .u64 0, .int .i64 0, .int .i64 0, .int .i64 0, .int .i64 0, .int .i64 0, .bool false, .bool false, .slice none 0 0, .int .i64 0])) → Hid (Chg [wr.heap.size] wq W) → Hid (Blk W wr.heap.size 39 [.bool false, .int .u64 0, .int .u64 0, .int .u64 0, .int .i64 0, .int .i64 0, .int .i64 0, .int .i64 0, .int .i64 0, .bool false, .bool false, .slice none 0 0, .int .i64 0]) ∧ Hid (Chg [] wr W)) := fun W B c1 => by
          have B := B.out
          rw [lay_all _ _ (by rfl)] at B
          exact ⟨B, CQ.out.fresh c1.out (fun i hi => .inr (by rw [List.mem_singleton.1 hi]; exact Nat.le_refl _))⟩
        have PSb := Lib.hid size_bal
        have LEb : Hid (0 + ([.bool false, .int .u64 0, .int .u64 0, .int .u64 0, .int .i64 0, .int .i64 0, .int .i64 0, .int .i64 0, .int .i64 0, .bool false, .bool false, .slice none 0 0, .int .i64 0] : List Value).length ≤ ([.bool d.has, .int .u64 (d.s.id : Int), .int .u64 (d.s.ev : Int), .int .u64 (d.s.safe : Int), .int .i64 d.s.role, .int .i64 d.s.m, .int .i64 d.s.c, .int .i64 d.s.t, .int .i64 d.s.ring, .bool d.s.lazy, .bool d.s.lost, .slice uo d.s.st.length uc, .int .i64 d.s.cur] : List Value).length) := Nat.le_refl 13
        have OCb : Hid (∀ v ∈ ([.bool false, .int .u64 0, .int .u64 0, .int .u64 0, .int .i64 0, .int .i64 0, .int .i64 0, .int .i64 0, .int .i64 0, .bool false, .bool false, .slice none 0 0, .int .i64 0] : List Value), v.oneCell' = true) := by
          intro v hv
          simp only [List.mem_cons, List.not_mem_nil, or_false] at hv
          rcases hv with rfl | rfl | rfl | rfl | rfl | rfl | rfl | rfl | rfl | rfl | rfl | rfl | rfl <;> rfl
        go_upto_region 9 with fail
        go_upto_region 10 with (refine wpList_store_blk rfl _ _ _ rfl wr.heap.size 0 39 [.bool d.has, .int .u64 (d.s.id : Int), .int .u64 (d.s.ev : Int), .int .u64 (d.s.safe : Int), .int .i64 d.s.role, .int .i64 d.s.m, .int .i64 d.s.c, .int .i64 d.s.t, .int .i64 d.s.ring, .bool d.s.lazy, .bool d.s.lost, .slice uo d.s.st.length uc, .int .i64 d.s.cur] [.bool false, .int .u64 0, .int .u64 0, .int .u64 0, .int .i64 0, .int .i64 0, .int .i64 0, .int .i64 0, .int .i64 0, .bool false, .bool false, .slice none 0 0, .int .i64 0] rfl rfl BQ.out LEb.out PSb.out OCb.out ?_; intro w3 B1 C1; obtain ⟨B3, C3⟩ := B5z.out w3 B1 C1; clear B1 C1 B5z PSb OCb LEb)
        have RC := Lib.hid (R.out.chg C3.out)
        have y0 := B3.out.cell (j := 0) rfl
        have y1 := B3.out.cell (j := 1) rfl
        have y2 := B3.out.cell (j := 2) rfl
        have y3 := B3.out.cell (j := 3) rfl
        have y4 := B3.out.cell (j := 4) rfl
        have y5 := B3.out.cell (j := 5) rfl
        have y6 := B3.out.cell (j := 6) rfl
        have y7 := B3.out.cell (j := 7) rfl
        have y8 := B3.out.cell (j := 8) rfl
        have y9 := B3.out.cell (j := 9) rfl
        have y10 := B3.out.cell (j := 10) rfl
        have y11 := B3.out.cell (j := 11) rfl
        have y12 := B3.out.cell (j := 12) rfl
        clear R BQ CQ B3 C3
        generalize wr.heap.size = g5 at *
        obtain ⟨wX, hwX⟩ : ∃ wX, wX = w3.alloc (.cells #[.bool false, .int .u64 0, .int .u64 0, .int .u64 0, .int .i64 0, .int .i64 0, .int .i64 0, .int .i64 0, .int .i64 0, .bool false, .bool false, .slice none 0 0, .int .i64 0] 39) := ⟨_, rfl⟩
        have CX : Chg [] w3 wX := by rw [hwX]; exact (Chg.refl _ _).alloc _
        have BX : Blk wX w3.heap.size 39 (BalD.cells ⟨false, Sup.nil, .slice none 0 0⟩) := by rw [hwX]; exact Blk.made w3 _ _
        have RA := RC.out.chg CX
        have FIN : Hid (∀ v' w', w'.ownsRow w.heap.size 39 13 v' (mz.length + 1) (flat13 mz ++ (BalD.cells ⟨false, Sup.nil, .slice none 0 0⟩)) → wX.grownBy w' (Value.slice mo mz.length mc).ownBlock → (v'.ownBlock = (Value.slice mo mz.length mc).ownBlock ∨ (v'.ownBlock = some wX.heap.size ∧ wX.grownBy w' none)) → ARow w w' v' (mz ++ [⟨false, Sup.nil, .slice none 0 0⟩])) := fun v' w' o g hv => RA.app (ASt.blank false) o g hv
        have OWN : Hid (wX.ownsRow w.heap.size 39 13 (.slice mo mz.length mc) mz.length (flat13 mz)) := RA.row
        have NW : Hid (∀ (q : Nat) u, (BalD.cells ⟨false, Sup.nil, .slice none 0 0⟩)[q]? = some u → wX.cell? ((⟨w3.heap.size, 0, none⟩ : Addr).add q) = some u) := fun q u hu => by
          have e : (⟨w3.heap.size, 0, none⟩ : Addr).add q = ⟨w3.heap.size, q, none⟩ := by rw [Addr.add_lit, Nat.zero_add]
          rw [e]
          exact BX.cell hu
        have ONE : Hid (∀ u ∈ (BalD.cells ⟨false, Sup.nil, .slice none 0 0⟩), u.oneCell' = true) := by
          intro u hu
          simp only [BalD.cells, Sup.nil, List.mem_cons, List.not_mem_nil, or_false] at hu
          rcases hu with rfl | rfl | rfl | rfl | rfl | rfl | rfl | rfl | rfl | rfl | rfl | rfl | rfl <;> rfl
        have SZ : Hid (w.heap.size ≤ wX.heap.size) := RA.ch.size
        have hmz : mz.length ≤ 10000 := by have := LZ.out; omega
        replace hwX := Lib.hid hwX
        clear RC RA CX BX
        go_wp2_with (at_builtin; rw [← hwX.out]; refine wpList_append_three _ rfl _ _ 22 rfl w.heap.size 39 i0 _ 13 112 Try.underlying22 ki.out kz0.out kz1.out kz2.out rfl (by decide) _ mz.length (flat13 mz) rfl OWN.out ⟨w3.heap.size, 0, none⟩ 1 1 (BalD.cells ⟨false, Sup.nil, .slice none 0 0⟩) rfl rfl NW.out ONE.out (by unfold maxLen; omega) (by omega) SZ.out ?_; intro v' w' O1 G1 V1; have R2 := Lib.hid (FIN.out v' w' O1.out G1.out V1.out); clear O1 G1 V1 FIN OWN NW ONE SZ)
        have RL2 : Hid (BRel ds n (mz ++ [⟨false, Sup.nil, .slice none 0 0⟩])) := RL.out.bad hd LZ.out (by unfold Vt.fine; rw [decide_eq_false HM.out]; simp)
        exact ⟨⟨j + 1, mz ++ [⟨false, Sup.nil, .slice none 0 0⟩], by omega, by go_num, (by show _ = _; simp [LZ.out]), R2, RL2⟩, by simp [intOf]; omega⟩
      go_upto_region 10 with fail
      replace hr := Lib.hid hr
      replace hm := Lib.hid hm
      clear hw1 k4 k5
      have RC := Lib.hid (R.out.chg CQ.out)
      have y0 := BQ.out.cell (j := 0) rfl
      have y1 := BQ.out.cell (j := 1) rfl
      have y2 := BQ.out.cell (j := 2) rfl
      have y3 := BQ.out.cell (j := 3) rfl
      have y4 := BQ.out.cell (j := 4) rfl
      have y5 := BQ.out.cell (j := 5) rfl
      have y6 := BQ.out.cell (j := 6) rfl
      have y7 := BQ.out.cell (j := 7) rfl
      have y8 := BQ.out.cell (j := 8) rfl
      have y9 := BQ.out.cell (j := 9) rfl
      have y10 := BQ.out.cell (j := 10) rfl
      have y11 := BQ.out.cell (j := 11) rfl
      have y12 := BQ.out.cell (j := 12) rfl
      clear R BQ CQ
      generalize wr.heap.size = g5 at *
      obtain ⟨wX, hwX⟩ : ∃ wX, wX = wq.alloc (.cells #[.bool d.has, .int .u64 (d.s.id : Int), .int .u64 (d.s.ev : Int), .int .u64 (d.s.safe : Int), .int .i64 d.s.role, .int .i64 d.s.m, .int .i64 d.s.c, .int .i64 d.s.t, .int .i64 d.s.ring, .bool d.s.lazy, .bool d.s.lost, .slice uo d.s.st.length uc, .int .i64 d.s.cur] 39) := ⟨_, rfl⟩
      have CX : Chg [] wq wX := by rw [hwX]; exact (Chg.refl _ _).alloc _
      have BX : Blk wX wq.heap.size 39 (BalD.cells ⟨d.has, d.s, .slice uo d.s.st.length uc⟩) := by rw [hwX]; exact Blk.made wq _ _
      have RA := RC.out.chg CX
      have FIN : Hid (∀ v' w', w'.ownsRow w.heap.size 39 13 v' (mz.length + 1) (flat13 mz ++ (BalD.cells ⟨d.has, d.s, .slice uo d.s.st.length uc⟩)) → wX.grownBy w' (Value.slice mo mz.length mc).ownBlock → (v'.ownBlock = (Value.slice mo mz.length mc).ownBlock ∨ (v'.ownBlock = some wX.heap.size ∧ wX.grownBy w' none)) → ARow w w' v' (mz ++ [⟨d.has, d.s, .slice uo d.s.st.length uc⟩])) := fun v' w' o g hv => RA.app (ASt.arg SLd.out BGd FTd.out RA.ch RA.row) o g hv
      have OWN : Hid (wX.ownsRow w.heap.size 39 13 (.slice mo mz.length mc) mz.length (flat13 mz)) := RA.row
      have NW : Hid (∀ (q : Nat) u, (BalD.cells ⟨d.has, d.s, .slice uo d.s.st.length uc⟩)[q]? = some u → wX.cell? ((⟨wq.heap.size, 0, none⟩ : Addr).add q) = some u) := fun q u hu => by
        have e : (⟨wq.heap.size, 0, none⟩ : Addr).add q = ⟨wq.heap.size, q, none⟩ := by rw [Addr.add_lit, Nat.zero_add]
        rw [e]
        exact BX.cell hu
      have ONE : Hid (∀ u ∈ (BalD.cells ⟨d.has, d.s, .slice uo d.s.st.length uc⟩), u.oneCell' = true) := by
        intro u hu
        simp only [BalD.cells, List.mem_cons, List.not_mem_nil, or_false] at hu
        rcases hu with rfl | rfl | rfl | rfl | rfl | rfl | rfl | rfl | rfl | rfl | rfl | rfl | rfl <;> rfl
      have SZ : Hid (w.heap.size ≤ wX.heap.size) := RA.ch.size
      have hmz : mz.length ≤ 10000 := by have := LZ.out; omega
      replace hwX := Lib.hid hwX
      clear RC RA CX BX
      go_wp2_with (at_builtin; rw [← hwX.out]; refine wpList_append_three _ rfl _ _ 22 rfl w.heap.size 39 i0 _ 13 112 Try.underlying22 ki.out kz0.out kz1.out kz2.out rfl (by decide) _ mz.length (flat13 mz) rfl OWN.out ⟨wq.heap.size, 0, none⟩ 1 1 (BalD.cells ⟨d.has, d.s, .slice uo d.s.st.length uc⟩) rfl rfl NW.out ONE.out (by unfold maxLen; omega) (by omega) SZ.out ?_; intro v' w' O1 G1 V1; have R2 := Lib.hid (FIN.out v' w' O1.out G1.out V1.out); clear O1 G1 V1 FIN OWN NW ONE SZ)
      have RL2 : Hid (BRel ds n (mz ++ [⟨d.has, d.s, .slice uo d.s.st.length uc⟩])) := RL.out.same hd LZ.out rfl rfl
      exact ⟨⟨j + 1, mz ++ [⟨d.has, d.s, .slice uo d.s.st.length uc⟩], by omega, by go_num, (by show _ = _; simp [LZ.out]), R2, RL2⟩, by simp [intOf]; omega⟩
    · obtain rfl : j = n := by omega
      have CG := RL.out.cong HN.out LZ.out
      have RZ := R
      clear R RL
      have EQ := CG
      have CM : Hid (Chg [] w wr) := RZ.out.ch
      have c1 := Lib.hid (choose_any ds _ wr (HV.out.chg CM.out))
      have c2 := Lib.hid (fun W (c : Chg [] wr W) => choose_any mz _ W ((RZ.out.chg c).bals (by rw [LZ.out]; omega)))
      unfold Chose at c1 c2
      rw [← EQ.1, ← EQ.2.1, ← EQ.2.2.1, ← EQ.2.2.2] at c2
      clear EQ RZ CG
      generalize hZ : Vt.out ds = Z at *
      generalize Vt.ch ds = CB at *
      generalize Vt.jn ds = JB at *
      generalize (Vt.err ds : Int) = ER at *
      have hZb : Z.st.length ≤ 140737488355328 := by
        rw [← hZ]
        exact Vt.out_len ds
      clear hZ
      go_wp2_with fail
      refine c1.out.mono ?_
      rintro e w8 ⟨u1, rfl, O1, C8⟩
      have S1 : Hid (Sl w8 u1 Z.st) := Sl.owned O1.out
      obtain ⟨ao1, ac1, rfl⟩ := owns_slice O1.out
      clear O1 c1
      unfold verdV verdCells at *
      obtain ⟨w9, hw9⟩ : ∃ w9, w9 = w8.alloc (.cells #[.int .u64 (Z.id : Int), .int .u64 (Z.ev : Int), .int .u64 (Z.safe : Int), .int .i64 Z.role, .int .i64 Z.m, .int .i64 Z.c, .int .i64 Z.t, .int .i64 Z.ring, .bool Z.lazy, .bool Z.lost, .slice ao1 Z.st.length ac1, .int .i64 Z.cur, .bool CB, .bool JB] 31) := ⟨_, rfl⟩
      have V9 : Hid (Blk w9 w8.heap.size 31 [.int .u64 (Z.id : Int), .int .u64 (Z.ev : Int), .int .u64 (Z.safe : Int), .int .i64 Z.role, .int .i64 Z.m, .int .i64 Z.c, .int .i64 Z.t, .int .i64 Z.ring, .bool Z.lazy, .bool Z.lost, .slice ao1 Z.st.length ac1, .int .i64 Z.cur, .bool CB, .bool JB]) := by show Blk _ _ _ _; rw [hw9]; exact Blk.made w8 _ _
      have C89 : Hid (Chg [] w8 w9) := by show Chg _ _ _; rw [hw9]; exact (Chg.refl _ _).alloc _
      have C9 := Lib.hid (C8.out.trans C89.out)
      have S9 := Lib.hid (S1.out.chg C89.out (by simp))
      replace hw9 := Lib.hid hw9
      have c3 := Lib.hid (c2.out w9 C9.out)
      clear c2 C8 C89 S1
      go_wp2_with fail
      rw [← hw9.out]
      generalize w8.heap.size = gA at *
      clear hw9
      refine c3.out.mono ?_
      rintro e wa ⟨u2, rfl, O2, Ca⟩
      have S2 : Hid (Sl wa u2 Z.st) := Sl.owned O2.out
      obtain ⟨ao2, ac2, rfl⟩ := owns_slice O2.out
      clear O2 c3
      have Va := Lib.hid (V9.out.chg Ca.out (by simp))
      have Sa := Lib.hid (S9.out.chg Ca.out (by simp))
      have Ca' := Lib.hid (CM.out.trans (C9.out.trans Ca.out))
      clear V9 S9 C9 Ca CM
      obtain ⟨wb, hwb⟩ : ∃ wb, wb = wa.alloc (.cells #[.int .u64 (Z.id : Int), .int .u64 (Z.ev : Int), .int .u64 (Z.safe : Int), .int .i64 Z.role, .int .i64 Z.m, .int .i64 Z.c, .int .i64 Z.t, .int .i64 Z.ring, .bool Z.lazy, .bool Z.lost, .slice ao2 Z.st.length ac2, .int .i64 Z.cur, .bool CB, .bool JB] 31) := ⟨_, rfl⟩
      have Vb2 : Hid (Blk wb wa.heap.size 31 [.int .u64 (Z.id : Int), .int .u64 (Z.ev : Int), .int .u64 (Z.safe : Int), .int .i64 Z.role, .int .i64 Z.m, .int .i64 Z.c, .int .i64 Z.t, .int .i64 Z.ring, .bool Z.lazy, .bool Z.lost, .slice ao2 Z.st.length ac2, .int .i64 Z.cur, .bool CB, .bool JB]) := by show Blk _ _ _ _; rw [hwb]; exact Blk.made wa _ _
      have Cb : Hid (Chg [] wa wb) := by show Chg _ _ _; rw [hwb]; exact (Chg.refl _ _).alloc _
      have Vb := Lib.hid (Va.out.chg Cb.out (by simp))
      have Sb := Lib.hid (Sa.out.chg Cb.out (by simp))
      have Sb2 := Lib.hid (S2.out.chg Cb.out (by simp))
      have Cb' := Lib.hid (Ca'.out.trans Cb.out)
      have KW := Lib.hid (known_any wb)
      replace hwb := Lib.hid hwb
      clear Va Sa Ca' Cb S2
      go_wp2_with fail
      rw [← hwb.out]
      generalize wa.heap.size = gB at *
      clear hwb
      refine KW.out.mono ?_
      rintro e wk ⟨rfl, CK⟩
      have CC := Lib.hid (Cb'.out.trans CK.out)
      have Vk := Lib.hid (Vb.out.chg CK.out (by simp))
      have Vk2 := Lib.hid (Vb2.out.chg CK.out (by simp))
      have SV := Lib.hid (sameVerdict_any Z CB JB _ _ wk (Sb.out.chg CK.out (by simp)) (Sb2.out.chg CK.out (by simp)) hZb)
      unfold verdV verdCells at SV
      have y0 := Vk.out.cell (j := 0) rfl
      have y1 := Vk.out.cell (j := 1) rfl
      have y2 := Vk.out.cell (j := 2) rfl
      have y3 := Vk.out.cell (j := 3) rfl
      have y4 := Vk.out.cell (j := 4) rfl
      have y5 := Vk.out.cell (j := 5) rfl
      have y6 := Vk.out.cell (j := 6) rfl
      have y7 := Vk.out.cell (j := 7) rfl
      have y8 := Vk.out.cell (j := 8) rfl
      have y9 := Vk.out.cell (j := 9) rfl
      have y10 := Vk.out.cell (j := 10) rfl
      have y11 := Vk.out.cell (j := 11) rfl
      have y12 := Vk.out.cell (j := 12) rfl
      have y13 := Vk.out.cell (j := 13) rfl
      have z0 := Vk2.out.cell (j := 0) rfl
      have z1 := Vk2.out.cell (j := 1) rfl
      have z2 := Vk2.out.cell (j := 2) rfl
      have z3 := Vk2.out.cell (j := 3) rfl
      have z4 := Vk2.out.cell (j := 4) rfl
      have z5 := Vk2.out.cell (j := 5) rfl
      have z6 := Vk2.out.cell (j := 6) rfl
      have z7 := Vk2.out.cell (j := 7) rfl
      have z8 := Vk2.out.cell (j := 8) rfl
      have z9 := Vk2.out.cell (j := 9) rfl
      have z10 := Vk2.out.cell (j := 10) rfl
      have z11 := Vk2.out.cell (j := 11) rfl
      have z12 := Vk2.out.cell (j := 12) rfl
      have z13 := Vk2.out.cell (j := 13) rfl
      clear KW Vb Vb2 Sb Sb2 CK Cb' Vk Vk2
      go_wp2_with fail
      refine SV.out.mono ?_
      rintro e wl ⟨rfl, CL⟩
      have CF := Lib.hid (CC.out.trans CL.out)
      clear SV CL CC y0 z0 y1 z1 y2 z2 y3 z3 y4 z4 y5 z5 y6 z6 y7 z7 y8 z8 y9 z9 y10 z10 y11 z11 y12 z12 y13 z13
      go_wp2_with fail
      go_ret
      exact ⟨rfl, CF⟩

theorem voteBlank_walk (lv : Value) (ds : List BalD) (w : World) (hv : Bals w lv ds) : Calls Try.prog 5 #[lv] w fun e w' => e = .returned (.bool true) ∧ Chg [] w w' :=
  (voteBlank_core lv ds w hv).mono (fun _ _ h => ⟨h.1, h.2.out⟩)

end Go.Proofs.Ytffpjefecmkfmaa
