/-
  The document's lift: Put. By an AI agent.
-/
import Derived.Test.YtihmegpcbpdipaaLfThings
import Derived.RegionTactic
import Derived.Deep.RegionLaw
namespace Go.Proofs.Ytihmegpcbpdipaa
open Go.RowKit

theorem step_append_three {P : Program} (w : World) {ops : Array Oper} {o : Oper} {a : Act} {K : Act → World → Prop} {Q : Exit → Act → World → Prop} {E : Prop} (hgd : o.guard = none) (s x : Operand) (t : TypeId)
    (ho : o.op = .call { callee := .builtin .append, args := #[s, x], argTypes := #[t, t] })
    (base : Nat) (e : TypeId) (i : TypeInfo) (z : Value) (size bytes : Nat) (ht : P.underlying t = some (.slice e)) (hi : P.info? e = some i) (hz : i.zero = some z)
    (hsize : i.size = size) (hby : i.bytes = bytes) (hzs : z.cells.size = size) (hsz : 0 < size)
    (v : Value) (n : Nat) (xs : List Value) (hs : a.eval s = v) (hown : w.ownsRow base e size v n xs)
    (ad : Addr) (m c : Nat) (news : List Value) (hx : a.eval x = .slice (some ad) m c) (hl : news.length = m * size) (hnews : ∀ j u, news[j]? = some u → w.cell? (ad.add j) = some u) (h1 : ∀ u ∈ news, u.oneCell' = true)
    (h63 : n + m ≤ maxLen) (hbytes : (n + m) * bytes ≤ 140737488355328) (hbase : base ≤ w.heap.size)
    (h : ∀ ao c' w', Hid (w'.ownsRow base e size (.slice ao (n + m) c') (n + m) (xs ++ news)) → Hid (w.grownBy w' v.ownBlock) → Hid ((Value.slice ao (n + m) c').ownBlock = v.ownBlock ∨ ((Value.slice ao (n + m) c').ownBlock = some w.heap.size ∧ w.grownBy w' none)) → K (a.put o.dst (.slice ao (n + m) c')) w') :
    if Region.wanted o (yielded ops a.tmps) = true then Oper.wp P o a w K Q else E := by
  have hw : Region.wanted o (yielded ops a.tmps) = true := by simp [Region.wanted, hgd]
  rw [if_pos hw]
  obtain ⟨v', w', hr, h2, h3, h4⟩ := run_append_three (P := P) w base t o.type e i z size bytes ht hi hz hsize hby hzs hsz v n xs hown ad m c news hl hnews h1 h63 hbytes hbase
  obtain ⟨ao, c', rfl⟩ := owns_slice h2
  unfold Oper.wp
  simp [execOp, ho, resolve, invoke, builtin, hs, hx, hr, Result.andThen]
  exact h ao c' w' h2 h3 h4

/-- What Put refuses. -/
def Refuses (m r : Int) (n : Nat) (er : Int) : Prop := ((m < 0 ∨ 15 < m ∨ r < 0 ∨ 4095 < r) ∧ er = 3) ∨ (0 ≤ m ∧ m ≤ 15 ∧ 0 ≤ r ∧ r ≤ 4095 ∧ n ≠ 128 ∧ er = 4)

set_option maxHeartbeats 2000000 in
set_option maxRecDepth 100000 in
theorem refPut_no (w : World) (P : Nat) (m r : Int) (ao : Option Addr) (n c : Nat) (er : Int) (h : Refuses m r n er) :
    Calls Try.prog 19 #[.pointer (some ⟨P, 0, none⟩), .agg #[.int .i64 m, .int .i64 r, .slice ao n c]] w (Says w (.int .i64 er)) := by
  have fin : Chg [] w (w.alloc (.cells #[.int .i64 m, .int .i64 r, .slice ao n c] 49)) := (Chg.refl _ _).alloc _
  replace fin := Lib.hid fin
  rcases h with ⟨h, rfl⟩ | ⟨h1, h2, h3, h4, h5, rfl⟩
  · by_cases a1 : m < 0
    · clear h
      go_enter Try.func19, Try.ntmps19
      go_wp2_with fail
      go_ret
      exact ⟨rfl, fin⟩
    by_cases a2 : 15 < m
    · clear h
      go_enter Try.func19, Try.ntmps19
      go_wp2_with fail
      go_ret
      exact ⟨rfl, fin⟩
    by_cases a3 : r < 0
    · clear h
      go_enter Try.func19, Try.ntmps19
      go_wp2_with fail
      go_ret
      exact ⟨rfl, fin⟩
    have a4 : 4095 < r := by omega
    clear h
    go_enter Try.func19, Try.ntmps19
    go_wp2_with fail
    go_ret
    exact ⟨rfl, fin⟩
  · have a1 : ¬ m < 0 := by omega
    have a2 : ¬ 15 < m := by omega
    have a3 : ¬ r < 0 := by omega
    have a4 : ¬ 4095 < r := by omega
    have a5 : ((n : Int) != 128) = true := by simp; omega
    clear h1 h2 h3 h4 h5
    go_enter Try.func19, Try.ntmps19
    go_wp2_with fail
    go_ret
    exact ⟨rfl, fin⟩

theorem dOf_erase_filter {L : List Pv} {i : Nat} {p : Pv} {d : Pd} (hi : L[i]? = some p) (hs : Lf.same p.1 d) : (dOf (L.eraseIdx i)).filter (fun q => decide (¬ Lf.same q d)) = (dOf L).filter (fun q => decide (¬ Lf.same q d)) := by
  obtain ⟨h1, rfl⟩ := List.getElem?_eq_some_iff.1 hi
  have e : L = L.take i ++ L[i] :: L.drop (i + 1) := by simp
  rw [List.eraseIdx_eq_take_drop_succ]
  conv => rhs; rw [e]
  unfold dOf
  rw [List.map_append, List.map_append, List.map_cons, List.filter_append, List.filter_append, List.filter_cons_of_neg (by simpa using hs)]

/-- A block that is none of the lift's. -/
def Off (g P : Nat) (lv : Value) (L : List Pv) : Prop := g ≠ P ∧ lv.ownBlock ≠ some g ∧ g ∉ rowsOf (L.map pvRow)

set_option maxHeartbeats 4000000 in
set_option maxRecDepth 100000 in
theorem refPut_ok {w0 w : World} {ts : List Thing} (P row : Nat) (lv : Value) (L : List Pv) (d : Pd) (dv : Value) (S : List Pd) (hm : d.m ≤ 15) (hr : d.r ≤ 4095) (hb : d.bs.length = 128) (hs : Sl w dv (ints d.bs)) (hoff : ∀ g, dv.ownBlock = some g → Off g P lv L) (hrep : Rep L S) (hl : L.length ≤ 100000)
    (h : Side w0 w (lfT P lv row :: listT lv L :: dataT L :: ts)) :
    Calls Try.prog 19 #[.pointer (some ⟨P, 0, none⟩), .agg #[.int .i64 (d.m : Int), .int .i64 (d.r : Int), dv]] w fun e w' =>
      e = .returned (.int .i64 0) ∧ ∃ lv' L', Hid (Rep L' (Lf.ins d S)) ∧ Hid (Side w0 w' (lfT P lv' row :: listT lv' L' :: dataT L' :: ts)) := by
  obtain ⟨i0, hi, hz0, hz1, hz2⟩ := info_parts info_patch
  obtain ⟨j0, ji, jz0, jz1, jz2⟩ := info_parts info_u8
  replace hi := Lib.hid hi
  replace hz0 := Lib.hid hz0
  replace hz1 := Lib.hid hz1
  replace hz2 := Lib.hid hz2
  replace ji := Lib.hid ji
  replace jz0 := Lib.hid jz0
  replace jz1 := Lib.hid jz1
  replace jz2 := Lib.hid jz2
  have hdl := hs.lt (by rw [ints_length, hb]; decide)
  obtain ⟨dvo, dvc, hdv⟩ := hs.slice
  rw [ints_length, hb] at hdv
  subst hdv
  obtain ⟨dm, dr, bs⟩ := d
  dsimp only at hm hr hb hs hoff hrep
  have HB := Lib.hid hb
  have HR := Lib.hid hrep
  have HL := Lib.hid hl
  have H1 := Lib.hid ((h.add (b := blkT w.heap.size 49 [.int .i64 (dm : Int), .int .i64 (dr : Int), .slice dvo 128 dvc]) ((Chg.refl _ _).alloc (.cells #[.int .i64 (dm : Int), .int .i64 (dr : Int), .slice dvo 128 dvc] 49)) (Blk.made w [_, _, _] _) (fun k hk => by rw [List.mem_singleton.1 hk]; exact Nat.le_refl _)))
  have SD : Hid (Sl (w.alloc (.cells #[.int .i64 (dm : Int), .int .i64 (dr : Int), .slice dvo 128 dvc] 49)) (.slice dvo 128 dvc) (ints bs) ∧ ∀ g, (Value.slice dvo 128 dvc).ownBlock = some g → g < w.heap.size ∧ Off g P lv L) := ⟨hs.chgNil ((Chg.refl _ _).alloc _), fun g hg => ⟨hdl g hg, hoff g hg⟩⟩
  have a1 : ¬ (dm : Int) < 0 := by omega
  have a2 : ¬ (15 : Int) < dm := by omega
  have a3 : ¬ (dr : Int) < 0 := by omega
  have a4 : ¬ (4095 : Int) < dr := by omega
  have hX0 : w.heap.size < (w.alloc (.cells #[.int .i64 (dm : Int), .int .i64 (dr : Int), .slice dvo 128 dvc] 49)).heap.size := by simp
  clear hm hr hb hs hrep hl h hoff hdl
  go_enter Try.func19, Try.ntmps19
  go_wp2_with fail
  generalize hX : w.heap.size = X at *
  generalize hW1 : (w.alloc (.cells #[.int .i64 (dm : Int), .int .i64 (dr : Int), .slice dvo 128 dvc] 49)) = w1 at *
  clear hX hW1 a1 a2 a3 a4
  have HX0 : Hid (X ≤ w1.heap.size) := Nat.le_of_lt hX0
  clear hX0
  go_loopw [5] (fun i wr => ∃ (k : Nat) (lv' : Value) (L' : List Pv), k ≤ L.length + 1 ∧ i = .int .i64 k ∧ Hid (L'.length ≤ L.length) ∧ Hid ((dOf L').filter (fun q => decide (¬ Lf.same q ⟨dm, dr, bs⟩)) = (dOf L).filter (fun q => decide (¬ Lf.same q ⟨dm, dr, bs⟩))) ∧ Hid (∀ j p, j < k → L'[j]? = some p → ¬ Lf.same p.1 ⟨dm, dr, bs⟩) ∧ Hid (∃ S', Rep L' S') ∧ Hid (Sl wr (.slice dvo 128 dvc) (ints bs) ∧ ∀ g, (Value.slice dvo 128 dvc).ownBlock = some g → g < X ∧ Off g P lv' L') ∧ Hid (X ≤ wr.heap.size) ∧ Hid (Side w0 wr (blkT X 49 [.int .i64 (dm : Int), .int .i64 (dr : Int), .slice dvo 128 dvc] :: lfT P lv' row :: listT lv' L' :: dataT L' :: ts))) (fun i _ => L.length + 1 - (intOf i).toNat)
  case atStart => exact ⟨0, lv, L, Nat.zero_le _, rfl, Nat.le_refl _, rfl, (fun j p hj => by omega), ⟨S, HR.out⟩, SD, HX0, H1⟩
  case round =>
    obtain ⟨k, lv', L', hk, rfl, HLL, HF, HN, HRP, SD2, HX, H⟩ := hrel
    clear H1 SD HX0
    have p0 : wr.cell? ⟨P, 0, none⟩ = some lv' := (H.out.get 1 rfl : Blk _ _ _ _).cell (j := 0) rfl
    have m0 : wr.cell? ⟨X, 0, none⟩ = some (.int .i64 (dm : Int)) := (H.out.get 0 rfl : Blk _ _ _ _).cell (j := 0) rfl
    have m1 : wr.cell? ⟨X, 1, none⟩ = some (.int .i64 (dr : Int)) := (H.out.get 0 rfl : Blk _ _ _ _).cell (j := 1) rfl
    have m2 : wr.cell? ⟨X, 2, none⟩ = some (.slice dvo 128 dvc) := (H.out.get 0 rfl : Blk _ _ _ _).cell (j := 2) rfl
    have OW := Lib.hid (show OwnW 3 wr 0 49 lv' (L'.map pvSlot) from H.out.get 2 rfl)
    have PK : Hid (PvOk L') := (H.out.get 3 rfl : Pool wr (L'.map pvRow)).ok
    obtain ⟨lo, lc, hlv⟩ := OW.out.slice
    rw [List.length_map] at hlv
    subst hlv
    by_cases hlt : k < L'.length
    · obtain ⟨x, hx⟩ : ∃ x, L'[k]? = some x := ⟨_, List.getElem?_eq_getElem hlt⟩
      have HX2 := Lib.hid hx
      obtain ⟨g, rfl, c0, c1, c2⟩ := least_of_cells OW.out.rd hx
      have hk0 : (0 : Int) ≤ k := Int.natCast_nonneg _
      have hk1 : (k : Int) < L'.length := by omega
      have HK := Lib.hid hlt
      have WK := Lib.hid (wrap_in (z := (k : Int) + 1) (by have := HL.out; have := HLL.out; omega) (by have := HL.out; have := HLL.out; omega))
      clear hlt hk hx c2
      by_cases hsame : Lf.same x.1 ⟨dm, dr, bs⟩
      · obtain ⟨s1, s2⟩ := hsame
        dsimp only at s1 s2
        rw [s1] at c0
        rw [s2] at c1
        go_wp2_with fail
        go_quiet (fail)
        have Wq : Hid (Chg [] wr (wr.drewN nq)) := (Chg.refl _ _).drewN nq
        have H2 := Lib.hid (H.out.quiet Wq.out)
        have WA := Lib.hid (without_any (wr.drewN nq) g L'.length lc k L' (OW.out.rd.chg Wq.out (by simp)) (OW.out.lt g rfl).2 rfl OW.out.cap HK.out PK.out (by have := HL.out; have := HLL.out; omega))
        have pq : (wr.drewN nq).cell? ⟨P, 0, none⟩ = some (.slice (some ⟨g, 0, none⟩) L'.length lc) := (H2.out.get 1 rfl : Blk _ _ _ _).cell (j := 0) rfl
        clear c0 c1 p0 m0 m1 m2
        generalize wr.drewN nq = wq at *
        go_wp2_with fail
        refine WA.out.mono ?_
        rintro e w2 ⟨v2, rfl, O2, C2⟩
        have hP2 : Blk w2 P 64 _ := (H2.out.get 1 rfl : Blk _ _ _ _).chg C2.out (by simp)
        have f0 := hP2.free 0
        obtain ⟨u0, hu0⟩ : ∃ u, w2.cell? ⟨P, 0, none⟩ = some u := ⟨_, hP2.cell (j := 0) rfl⟩
        have H3 := Lib.hid (H2.out.cut C2.out O2.out)
        have EN := Lib.hid (erase_none HRP.out.choose_spec HX2.out (d := ⟨dm, dr, bs⟩) ⟨s1, s2⟩)
        have SD3 : Hid (Sl (w2.setCell ⟨P, 0, none⟩ v2) (.slice dvo 128 dvc) (ints bs) ∧ ∀ g, (Value.slice dvo 128 dvc).ownBlock = some g → g < X ∧ Off g P v2 (L'.eraseIdx k)) := by
          refine ⟨((SD2.out.1.chgNil Wq.out).chgNil C2.out).chg (s := [P]) ((Chg.refl [P] w2).setCell (.inl (by simp)) _) (fun b hb hm => ?_), fun b hb => ?_⟩
          · exact (SD2.out.2 b hb).2.1 (by simpa using hm)
          · obtain ⟨q1, q2, q3, q4⟩ := SD2.out.2 b hb
            refine ⟨q1, q2, fun hv => ?_, fun hm => q4 (rowsOf_sub ((List.eraseIdx_sublist L' k).map _) hm)⟩
            have := (O2.out.lt b hv).1
            have := Wq.out.size
            have := HX.out
            omega
        have F3 : Hid ((dOf (L'.eraseIdx k)).filter (fun q => decide (¬ Lf.same q ⟨dm, dr, bs⟩)) = (dOf L).filter (fun q => decide (¬ Lf.same q ⟨dm, dr, bs⟩))) := (dOf_erase_filter HX2.out ⟨s1, s2⟩).trans HF.out
        have RP3 : Hid (∃ S', Rep (L'.eraseIdx k) S') := ⟨_, HRP.out.choose_spec.erase HX2.out⟩
        have LL3 : Hid ((L'.eraseIdx k).length ≤ L.length) := by show _ ≤ _; rw [List.length_eraseIdx_of_lt HK.out]; have := HLL.out; omega
        have HX3 : Hid (X ≤ (w2.setCell ⟨P, 0, none⟩ v2).heap.size) := by
          show _ ≤ _
          rw [World.size_setCell]
          exact Nat.le_trans HX.out (Nat.le_trans Wq.out.size C2.out.size)
        obtain ⟨vo2, vc2, hv2⟩ := O2.out.slice
        rw [List.length_map] at hv2
        obtain ⟨nL, hnL⟩ : ∃ nL, nL = (L'.eraseIdx k).length := ⟨_, rfl⟩
        rw [← hnL] at hv2
        replace hnL := Lib.hid hnL
        subst hv2
        clear WA H2 H OW O2 C2 hP2 Wq SD2 HF HRP HX pq s1 s2
        go_wp2_with fail
        exact ⟨⟨k + 1, _, L'.eraseIdx k, by have := HK.out; have := HLL.out; omega, by rw [WK.out.2]; rfl, LL3, F3, fun j p _ hp => EN.out j p hp, RP3, SD3, HX3, H3⟩, by have := HK.out; have := HLL.out; rw [WK.out.2]; simp [intOf]; omega⟩
      · have N3 : Hid (∀ j p, j < k + 1 → L'[j]? = some p → ¬ Lf.same p.1 ⟨dm, dr, bs⟩) := fun j p hj hp => by
          by_cases e : j = k
          · subst e
            rw [HX2.out] at hp
            obtain rfl : x = p := by simpa using hp
            exact hsame
          · exact HN.out j p (by omega) hp
        by_cases e1 : x.1.m = dm
        · have b0 : ((x.1.r : Int) == (dr : Int)) = false := by
            simp only [beq_eq_false_iff_ne, ne_eq]
            exact fun h => hsame ⟨e1, by show x.1.r = dr; omega⟩
          rw [e1] at c0
          clear hsame e1
          go_wp2_with fail
          go_quiet (fail)
          go_wp2_with fail
          exact ⟨⟨k + 1, _, L', by have := HK.out; have := HLL.out; omega, by rw [WK.out.2]; rfl, HLL, HF, N3, HRP, ⟨SD2.out.1.chgNil ((Chg.refl _ _).drewN _), SD2.out.2⟩, HX, H.out.quiet ((Chg.refl _ _).drewN _)⟩, by have := HK.out; have := HLL.out; rw [WK.out.2]; simp [intOf]; omega⟩
        · have b0 : ((x.1.m : Int) == (dm : Int)) = false := by simp; omega
          clear hsame e1
          go_wp2_with fail
          go_quiet (fail)
          go_wp2_with fail
          exact ⟨⟨k + 1, _, L', by have := HK.out; have := HLL.out; omega, by rw [WK.out.2]; rfl, HLL, HF, N3, HRP, ⟨SD2.out.1.chgNil ((Chg.refl _ _).drewN _), SD2.out.2⟩, HX, H.out.quiet ((Chg.refl _ _).drewN _)⟩, by have := HK.out; have := HLL.out; rw [WK.out.2]; simp [intOf]; omega⟩
    · have hge : ¬ (k : Int) < L'.length := by omega
      have hlk : L'.length ≤ k := by omega
      have DL : Hid (dOf L' = (dOf L).filter (fun q => decide (¬ Lf.same q ⟨dm, dr, bs⟩))) := by
        show _ = _
        rw [← HF.out]
        refine (List.filter_eq_self.2 fun q hq => ?_).symm
        obtain ⟨p, hp, rfl⟩ := List.mem_map.1 hq
        obtain ⟨j, hj⟩ := List.mem_iff_getElem?.1 hp
        have hjl := (List.getElem?_eq_some_iff.1 hj).1
        simpa using HN.out j p (by omega) hj
      clear hlt hlk hk
      obtain ⟨dg, dof, rfl, hdg, hdc⟩ : ∃ b o, dvo = some ⟨b, o, none⟩ ∧ b < wr.heap.size ∧ ∀ j, j < 128 → wr.cell? ⟨b, o + j, none⟩ = some (.int .u8 ((ints bs).getD j 0)) := by
        rcases SD2.out.1 with ⟨h0, _⟩ | ⟨b, o, c', hv, hb2, hc⟩
        · have := congrArg List.length h0
          rw [ints_length, HB.out] at this
          cases this
        · obtain ⟨rfl, -, -⟩ : dvo = some ⟨b, o, none⟩ ∧ 128 = (ints bs).length ∧ dvc = c' := by simpa using hv
          exact ⟨b, o, rfl, hb2, fun j hj => hc j (by rw [ints_length, HB.out]; exact hj)⟩
      have UB : Hid (∀ w', Chg [] wr w' → ∀ j u, (ub bs)[j]? = some u → w'.cell? ((⟨dg, dof, none⟩ : Addr).add j) = some u) := fun w' ch j u hj => by
        have hjl : j < 128 := by have := (List.getElem?_eq_some_iff.1 hj).1; rw [ub_len, HB.out] at this; exact this
        rw [Addr.add_lit]
        refine (ch.cell (p := ⟨dg, dof + j, none⟩) hdg (by simp)).trans ((hdc j hjl).trans ?_)
        rw [← hj]
        unfold ub
        rw [List.getElem?_map, List.getD_eq_getElem?_getD]
        have : j < (ints bs).length := by rw [ints_length, HB.out]; exact hjl
        rw [List.getElem?_eq_getElem this]
        rfl
      have U1 : Hid ((ub bs).length = 128 * 1) := by show _ = _; rw [ub_len, HB.out]
      have U2 : Hid (∀ u ∈ ub bs, u.oneCell' = true) := fun u hu => by
        obtain ⟨z, _, rfl⟩ := List.mem_map.1 hu
        rfl
      clear hdg hdc
      go_wp2_with (at_builtin; refine wpList_append_three _ rfl (.tmp 71) (.tmp 73) 47 rfl wr.heap.size 5 j0 (.int .u8 0) 1 1 Try.underlying47 ji.out jz0.out jz1.out jz2.out rfl (by decide) (.slice none 0 0) 0 [] rfl (World.ownsRow_nil _ _ _ _) ⟨dg, dof, none⟩ 128 _ (ub bs) rfl U1.out (UB.out _ (Chg.refl _ _)) U2.out (by decide) (by decide) (Nat.le_refl _) ?_; intro bv w1 ol gr nb; have D1 : Hid (Chg [] wr w1) := (Chg.refl _ wr).grown gr.out (fun k hk => by cases hk); clear gr nb; rw [Nat.zero_add, List.nil_append] at ol; obtain ⟨bo, bc, rfl⟩ := owns_slice ol.out)
      have H2 := Lib.hid (H.out.own (e := 5) (v := .slice bo 128 bc) (n := 128) (xs := ub bs) ol.out D1.out)
      have PP : Hid (Blk w1 P 64 [.slice lo L'.length lc, .int .i64 (row : Int)]) := H2.out.get 2 rfl
      have OW2 : Hid (OwnW 3 w1 0 49 (.slice lo L'.length lc) (L'.map pvSlot)) := H2.out.get 3 rfl
      have OR : Hid (w1.ownsRow 0 49 3 (.slice lo L'.length lc) L'.length (L'.map pvSlot).flatten) := by have := OW2.out.2; rw [List.length_map] at this; exact this
      have p1 : w1.cell? ⟨P, 0, none⟩ = some (.slice lo L'.length lc) := PP.out.cell (j := 0) rfl
      have n0 : w1.cell? ⟨X, 0, none⟩ = some (.int .i64 (dm : Int)) := (H2.out.get 1 rfl : Blk _ _ _ _).cell (j := 0) rfl
      have n1 : w1.cell? ⟨X, 1, none⟩ = some (.int .i64 (dr : Int)) := (H2.out.get 1 rfl : Blk _ _ _ _).cell (j := 1) rfl
      have B1 : Hid (L'.length + 1 ≤ maxLen) := by have := HL.out; have := HLL.out; show _ ≤ _; unfold maxLen; omega
      have B2 : Hid ((L'.length + 1) * 40 ≤ 140737488355328) := by have := HL.out; have := HLL.out; show _ ≤ _; omega
      have OFFP : Hid ((Value.slice lo L'.length lc).ownBlock ≠ some P) := fun e => (List.pairwise_cons.1 H2.out.tail.tail.apart).1 (listT (.slice lo L'.length lc) L') List.mem_cons_self P (by simp [lfT, blkT]) (by show P ∈ (Value.slice lo L'.length lc).ownBlock.toList; simp [e])
      have pA : (w1.alloc (.cells #[.int .i64 (dm : Int), .int .i64 (dr : Int), .slice bo 128 bc] 49)).cell? ⟨P, 0, none⟩ = some (.slice lo L'.length lc) := (PP.out.alloc _).cell (j := 0) rfl
      clear p0 m0 m1 m2 UB U2 OW H ol
      go_region_law (first | (refine step_append_three _ (by rfl) _ _ _ (by rfl) 0 49 i0 (.agg #[.int .i64 0, .int .i64 0, .slice none 0 0]) 3 40 Try.underlying56 hi.out hz0.out hz1.out hz2.out rfl (by decide) _ L'.length _ (by rfl) (OR.out.alloc _) ⟨w1.heap.size, 0, none⟩ 1 1 [.int .i64 (dm : Int), .int .i64 (dr : Int), .slice bo 128 bc] (by rfl) (by rfl) (three_new _ _ _ _ _) (by simp [Value.oneCell']) B1.out B2.out (Nat.zero_le _) ?_; intro vo vc wn ol2 gr2 nb2; have CG : Hid (Chg (Value.slice lo L'.length lc).ownBlock.toList w1 wn) := (by first | exact ((((Chg.refl [] w1).drewN _).alloc _).mono (by simp)).grown gr2.out (fun k hk => .inl (by rw [hk]; simp)) | exact (((Chg.refl [] w1).drew.alloc _).mono (by simp)).grown gr2.out (fun k hk => .inl (by rw [hk]; simp)) | exact (((Chg.refl [] w1).alloc _).mono (by simp)).grown gr2.out (fun k hk => .inl (by rw [hk]; simp))); have PN : Hid (Blk wn P 64 [.slice lo L'.length lc, .int .i64 (row : Int)]) := PP.out.chg CG.out (fun hm => OFFP.out (by simpa using hm)); have z0 := PN.out.cell (j := 0) rfl; have zf := PN.out.free 0))
      all_goals have NB := Lib.hid (nb_of nb2.out (H0 := w1.heap.size) (by simp))
      all_goals have SF := Lib.hid (put_end (d := ⟨dm, dr, bs⟩) H2.out CG.out rfl ol2.out NB.out)
      all_goals have RF := Lib.hid (HR.out.more (L' := L' ++ [(⟨dm, dr, bs⟩, .slice bo 128 bc)]) (⟨dm, dr, bs⟩, .slice bo 128 bc) (by unfold dOf at DL ⊢; rw [List.map_append, DL.out]; rfl))
      all_goals clear CG PN z0 zf ol2 gr2 nb2 NB
      all_goals go_wp2_with fail
      all_goals go_ret
      all_goals exact ⟨rfl, _, _, RF, SF⟩

end Go.Proofs.Ytihmegpcbpdipaa
