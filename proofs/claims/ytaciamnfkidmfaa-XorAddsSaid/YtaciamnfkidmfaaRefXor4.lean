/-
  The document's First, and its sums. By an AI agent.
-/
import Derived.Test.YtaciamnfkidmfaaRefXor3
namespace Go.Proofs.Ytaciamnfkidmfaa
open Go.RowKit

/-- The two are the same as far as k bytes: what is told then is told of what follows. -/
theorem first_from : ∀ (k : Nat) (a b : List Nat) (i : Nat), k ≤ a.length → k ≤ b.length → (∀ j, j < k → a.getD j 0 = b.getD j 0) → firstFrom i a b = firstFrom (i + k) (a.drop k) (b.drop k)
  | 0, a, b, i, _, _, _ => by simp
  | k + 1, [], b, i, h, _, _ => by simp at h
  | k + 1, x :: a, [], i, _, h, _ => by simp at h
  | k + 1, x :: a, y :: b, i, h1, h2, h => by
    have h0 : x = y := by have := h 0 (by omega); simpa using this
    rw [firstFrom, if_pos h0, List.drop_succ_cons, List.drop_succ_cons, first_from k a b (i + 1) (by simpa using h1) (by simpa using h2) (fun j hj => by have := h (j + 1) (by omega); simpa using this)]
    congr 1
    omega

theorem first_diff {k : Nat} {a b : List Nat} (h1 : k < a.length) (h2 : k < b.length) (h : ∀ j, j < k → a.getD j 0 = b.getD j 0) (hd : a.getD k 0 ≠ b.getD k 0) : first a b = k := by
  unfold first
  rw [first_from k a b 0 (by omega) (by omega) h, List.drop_eq_getElem_cons h1, List.drop_eq_getElem_cons h2, firstFrom]
  rw [List.getD_eq_getElem?_getD, List.getElem?_eq_getElem h1, List.getD_eq_getElem?_getD, List.getElem?_eq_getElem h2] at hd
  simp at hd
  rw [if_neg hd]
  simp

theorem first_short {a b : List Nat} (h : ∀ j, j < min a.length b.length → a.getD j 0 = b.getD j 0) (hl : a.length ≠ b.length) : first a b = ((min a.length b.length : Nat) : Int) := by
  unfold first
  rw [first_from (min a.length b.length) a b 0 (by omega) (by omega) h, Nat.zero_add]
  by_cases hlt : a.length < b.length
  · rw [show min a.length b.length = a.length by omega, List.drop_length]
    cases hb : b.drop a.length with
    | nil =>
      have := congrArg List.length hb
      simp at this
      omega
    | cons y r => rfl
  · rw [show min a.length b.length = b.length by omega, List.drop_length]
    cases ha : a.drop b.length with
    | nil =>
      have := congrArg List.length ha
      simp at this
      omega
    | cons y r => rfl

theorem first_same {a b : List Nat} (h : ∀ j, j < a.length → a.getD j 0 = b.getD j 0) (hl : a.length = b.length) : first a b = -1 := by
  unfold first
  rw [first_from a.length a b 0 (by omega) (by omega) h, List.drop_length, hl, List.drop_length]
  rfl

set_option maxHeartbeats 1000000 in
set_option maxRecDepth 100000 in
theorem refFirst_any (v u : Value) (xs ys : List Int) (w : World) (hx : Sl w v xs) (hy : Sl w u ys) (hbx : By xs) (hby : By ys) (hx1 : xs.length ≤ 140737488355328) (hy1 : ys.length ≤ 140737488355328) :
    Calls Try.prog 30 #[v, u] w fun e w' => e = .returned (.int .i64 (first (nats xs) (nats ys))) ∧ Hid (Chg [] w w') := by
  obtain ⟨ao, c, rfl⟩ := hx.slice
  obtain ⟨bo, d, rfl⟩ := hy.slice
  have HX := Lib.hid hx
  have HY := Lib.hid hy
  have BX := Lib.hid hbx
  have BY := Lib.hid hby
  clear hx hy hbx hby
  go_enter Try.func30, Try.ntmps30
  go_wp2_with fail
  go_loopw [5] (fun i wr => ∃ k : Nat, k ≤ xs.length ∧ k ≤ ys.length ∧ i = .int .i64 k ∧ Hid (∀ j, j < k → (nats xs).getD j 0 = (nats ys).getD j 0) ∧ ∃ q, wr = w.drewN q) (fun i _ => xs.length - (intOf i).toNat)
  case atStart => exact ⟨0, Nat.zero_le _, Nat.zero_le _, rfl, fun j hj => by omega, 0, rfl⟩
  case round =>
    obtain ⟨k, hk1, hk2, rfl, S, q, rfl⟩ := hrel
    have hk0 : (0 : Int) ≤ k := Int.natCast_nonneg _
    by_cases hlt : k < xs.length ∧ k < ys.length
    · obtain ⟨g1, o1, rfl, hg1, c1⟩ := sl_cell HX.out hlt.1
      obtain ⟨g2, o2, rfl, hg2, c2⟩ := sl_cell HY.out hlt.2
      obtain ⟨x, e1, l1, t1⟩ := nats_getD_any BX.out k
      obtain ⟨y, e2, l2, t2⟩ := nats_getD_any BY.out k
      rw [e1] at c1
      rw [e2] at c2
      have hk3 : (k : Int) < xs.length := by omega
      have hk4 : (k : Int) < ys.length := by omega
      by_cases hxy : x = y
      · subst hxy
        have S2 : Hid (∀ j, j < k + 1 → (nats xs).getD j 0 = (nats ys).getD j 0) := fun j hj => by
          by_cases hjk : j = k
          · rw [hjk, t1, t2]
          · exact S.out j (by omega)
        clear e1 e2 t1 t2
        go_wp2_with fail
        go_quiet (fail)
        go_wp2_with fail
        exact ⟨⟨k + 1, by omega, by omega, by go_num, S2, _, rfl⟩, by simp [intOf]; omega⟩
      · have F : Hid (first (nats xs) (nats ys) = k) := first_diff (by rw [nats_length]; exact hlt.1) (by rw [nats_length]; exact hlt.2) S.out (by rw [t1, t2]; exact hxy)
        have hb1 : ((x : Int) == (y : Int)) = false := beq_false_of_ne (by omega)
        have hb2 : ((x : Int) != (y : Int)) = true := by simp; omega
        clear e1 e2 t1 t2
        go_wp2_with fail
        go_quiet (fail)
        go_wp2_with fail
        go_ret
        exact ⟨by rw [F.out]; rfl, ((Chg.refl [] w).drewN _).drewN _⟩
    · have hb0 : k < xs.length → ¬ (k : Int) < ys.length := fun h => by omega
      by_cases hl : xs.length = ys.length
      · have hke : k = xs.length := by omega
        have F : Hid (first (nats xs) (nats ys) = -1) := first_same (fun j hj => S.out j (by rw [nats_length] at hj; omega)) (by rw [nats_length, nats_length]; exact hl)
        have hn : ¬ (k : Int) < xs.length := by omega
        have hb1 : ((xs.length : Int) == (ys.length : Int)) = true := by simp; omega
        have hb2 : ((xs.length : Int) != (ys.length : Int)) = false := by simp; omega
        clear hb0
        go_wp2_with fail
        go_ret
        exact ⟨by rw [F.out]; rfl, (Chg.refl [] w).drewN _⟩
      · have F : Hid (first (nats xs) (nats ys) = ((min xs.length ys.length : Nat) : Int)) := by
          have := first_short (a := nats xs) (b := nats ys) (fun j hj => S.out j (by rw [nats_length, nats_length] at hj; omega)) (by rw [nats_length, nats_length]; exact hl)
          rw [nats_length, nats_length] at this
          exact this
        have hm : min (xs.length : Int) (ys.length : Int) = ((min xs.length ys.length : Nat) : Int) := by omega
        have hb1 : ((xs.length : Int) == (ys.length : Int)) = false := beq_false_of_ne (by omega)
        have hb2 : ((xs.length : Int) != (ys.length : Int)) = true := by simp; omega
        by_cases hkx : k < xs.length
        · have h3 : (k : Int) < xs.length := by omega
          have h4 : ¬ (k : Int) < ys.length := by omega
          clear hb0
          go_wp2_with fail
          go_ret
          exact ⟨by rw [F.out]; rfl, (Chg.refl [] w).drewN _⟩
        · have h3 : ¬ (k : Int) < xs.length := by omega
          clear hb0
          go_wp2_with fail
          go_ret
          exact ⟨by rw [F.out]; rfl, (Chg.refl [] w).drewN _⟩

/-- A sum of the document's: its pointer, its blocks, its bytes, how many. -/
structure RSum (w : World) (base g : Nat) (u : Value) (bs : List Nat) (n : Nat) : Prop where
  blk : Blk w g 67 [u, .int .i64 (n : Int)]
  own : w.ownsRow base 5 1 u bs.length ((ints bs).map (Value.int .u8))
  far : u.ownBlock ≠ some g
  bytes : Bs bs
  new : base ≤ g

theorem RSum.chg {w w' : World} {s : List Nat} {base g : Nat} {u : Value} {bs : List Nat} {n : Nat} (h : RSum w base g u bs n) (c : Chg s w w') (h1 : g ∉ s) (h2 : ∀ k, u.ownBlock = some k → k ∉ s) : RSum w' base g u bs n :=
  ⟨h.blk.chg c h1, owns_chg h.own c h2, h.far, h.bytes, h.new⟩

/-- A new sum, or none. -/
def RNewed (w : World) (n : Int) (e : Ending) (w' : World) : Prop :=
  ((n < 0 ∨ 4096 < n) ∧ e = .returned (.pointer none) ∧ Hid (Chg [] w w')) ∨
  ((0 ≤ n ∧ n ≤ 4096) ∧ ∃ g u, e = .returned (.pointer (some ⟨g, 0, none⟩)) ∧ Hid (RSum w' w.heap.size g u (Xr.noughts n.toNat) 0) ∧ Hid (Chg [] w w'))

set_option maxRecDepth 100000 in
theorem refNew_any (n : Int) (w : World) : Calls Try.prog 32 #[.int .i64 n] w (RNewed w n) := by
  by_cases hbad : n < 0 ∨ 4096 < n
  · by_cases h1 : n < 0
    · go_enter Try.func32, Try.ntmps32
      go_wp2_with fail
      go_ret
      exact .inl ⟨hbad, rfl, Chg.refl _ _⟩
    · have h2 : 4096 < n := by omega
      go_enter Try.func32, Try.ntmps32
      go_wp2_with fail
      go_ret
      exact .inl ⟨hbad, rfl, Chg.refl _ _⟩
  · obtain ⟨m, rfl⟩ := Int.eq_ofNat_of_zero_le (show 0 ≤ n by omega)
    have hm : m ≤ 4096 := by omega
    have h1 : ¬ (m : Int) < 0 := by omega
    have h2 : ¬ (4096 : Int) < m := by omega
    obtain ⟨i0, hi, hz0, hz1, hz2⟩ := info_parts info_u8
    clear hbad
    go_enter Try.func32, Try.ntmps32
    go_wp2_with (at_make; refine wpList_make_full _ rfl _ _ 25 rfl w.heap.size 5 i0 (.int .u8 0) 1 Try.underlying25 hi hz0 hz1 .i64 .i64 _ _ m rfl rfl rfl rfl (by rw [hz2]; omega) (by unfold maxLen; omega) (Nat.le_refl _) ?_; intro w1 hown hgrow)
    go_ret
    rw [made_replicate _ _ rfl] at hown
    have hz := hgrow.size
    have O : w1.ownsRow w.heap.size 5 1 (.slice (some ⟨w.heap.size, 0, none⟩) m m) m ((ints (Xr.noughts m)).map (Value.int .u8)) := by
      rw [show (ints (Xr.noughts m)).map (Value.int .u8) = List.replicate m (Value.int .u8 0) by simp [ints, Xr.noughts]]
      exact hown
    have hlt := (hown.lt w.heap.size rfl).2
    refine .inr ⟨⟨by omega, by omega⟩, w1.heap.size, _, rfl, ⟨Blk.made w1 [_, .int .i64 0] _, ?_, ?_, ?_, by omega⟩, ((Chg.refl _ w).grown hgrow (by intro k hk; cases hk)).alloc _⟩
    · rw [show (Xr.noughts (m : Int).toNat) = Xr.noughts m by simp, show (Xr.noughts m).length = m by simp [Xr.noughts]]
      exact O.alloc _
    · simp [Value.ownBlock]
      omega
    · intro b hb
      rw [(List.mem_replicate.1 hb).2]
      decide

/-- What is put into a sum. -/
def addErr (bs : List Nat) (xs : List Int) : Nat := if xs.length = bs.length then 0 else 4
def addVal (bs : List Nat) (xs : List Int) : List Nat := if xs.length = bs.length then Xr.ors bs.length [bs, nats xs] else bs
def addMany (bs : List Nat) (n : Nat) (xs : List Int) : Nat := if xs.length = bs.length then n + 1 else n

theorem addVal_length (bs : List Nat) (xs : List Int) : (addVal bs xs).length = bs.length := by
  unfold addVal
  split
  · rw [Xr.ors_length]
  · rfl

/-- Behind an Add: the sum has its block, and its bytes where they were or in new memory. -/
def RAdded (w : World) (base g : Nat) (u : Value) (bs : List Nat) (n : Nat) (xs : List Int) (e : Ending) (w' : World) : Prop :=
  e = .returned (.int .u16 ((addErr bs xs : Nat) : Int)) ∧ ∃ u', Hid (RSum w' base g u' (addVal bs xs) (addMany bs n xs)) ∧ Hid (Chg [g] w w') ∧ (u' = u ∨ ∀ k, u'.ownBlock = some k → w.heap.size ≤ k)

set_option maxHeartbeats 1000000 in
set_option maxRecDepth 100000 in
theorem refAdd_any (base g : Nat) (u : Value) (bs : List Nat) (n : Nat) (v : Value) (xs : List Int) (w : World) (h : RSum w base g u bs n) (hv : Sl w v xs) (hby : By xs) (hb1 : bs.length ≤ 1000000) (hx1 : xs.length ≤ 1000000) (hn : n ≤ 1000000) (hbase : base ≤ w.heap.size) :
    Calls Try.prog 35 #[.pointer (some ⟨g, 0, none⟩), v] w (RAdded w base g u bs n xs) := by
  obtain ⟨uo, uc, rfl⟩ := owns_slice h.own
  obtain ⟨vo, vc, rfl⟩ := hv.slice
  have c0 := h.blk.cell (j := 0) rfl
  have H := Lib.hid h
  have V := Lib.hid hv
  have HB := Lib.hid hby
  clear h hv hby
  by_cases hl : xs.length = bs.length
  · have E : Hid (addErr bs xs = 0) := by show _ = _; unfold addErr; rw [if_pos hl]
    have EV : Hid (addVal bs xs = Xr.ors bs.length [bs, nats xs]) := by show _ = _; unfold addVal; rw [if_pos hl]
    have EM : Hid (addMany bs n xs = n + 1) := by show _ = _; unfold addMany; rw [if_pos hl]
    have hb : ((xs.length : Int) == (bs.length : Int)) = true := by simp; omega
    have hb2 : ((xs.length : Int) != (bs.length : Int)) = false := by simp; omega
    have hz := H.out.blk.lt
    rw [hl] at V ⊢
    go_enter Try.func35, Try.ntmps35
    go_wp2_with fail
    have RW : Rws (w.alloc (.cells #[.slice uo bs.length uc, .slice vo bs.length vc] 25)) (.slice (some ⟨w.heap.size, 0, none⟩) 2 2) [⟨.slice uo bs.length uc, ints bs⟩, ⟨.slice vo bs.length vc, xs⟩] :=
      rws_made (ds := [⟨.slice uo bs.length uc, ints bs⟩, ⟨.slice vo bs.length vc, xs⟩]) (fun d hd => by
        rcases List.mem_cons.1 hd with rfl | hd
        · exact ⟨own_sl H.out.own, ints_by H.out.bytes, by show (ints bs).length ≤ _; rw [ints_length]; omega⟩
        · obtain rfl : d = _ := List.mem_singleton.1 hd
          exact ⟨V.out, HB.out, by show xs.length ≤ _; omega⟩) (by simp)
    have hor := refOr_any _ _ bs.length _ RW (by simp) (by simp) (by omega) (fun d hd => by
        rcases List.mem_cons.1 hd with rfl | hd
        · exact ints_length bs
        · obtain rfl : d = _ := List.mem_singleton.1 hd
          exact hl)
    rw [show rowsN [⟨.slice uo bs.length uc, ints bs⟩, ⟨.slice vo bs.length vc, xs⟩] = [bs, nats xs] by simp [rowsN, nats_ints]] at hor
    refine hor.mono ?_
    clear hor RW c0
    rintro e w2 ⟨u2, rfl, O, D⟩
    have D0 : Hid (Chg [] w w2) := ((Chg.refl [] w).alloc _).trans D.out
    have P2 := Lib.hid (H.out.blk.chg D0.out (by simp))
    have f0 := P2.out.free 0
    have f1 := P2.out.free 1
    have c0 := P2.out.cell (j := 0) rfl
    have c1 := P2.out.cell (j := 1) rfl
    rw [Xr.ors_length] at O
    obtain ⟨ao2, c2, rfl⟩ := owns_slice O.out
    have hz2 := D.out.size
    have hz3 : w.heap.size + 1 ≤ w2.heap.size := by simpa using hz2
    go_wp2_with fail
    go_ret
    have nu : ∀ k, (Value.slice ao2 bs.length c2).ownBlock = some k → w.heap.size ≤ k := fun k hk => by
      have := (O.out.lt k hk).1
      have h2 : w.heap.size + 1 ≤ k := by simpa using this
      omega
    refine ⟨by rw [E.out]; rfl, _, ?_, (((D0.out.mono (by simp)).setCell (.inl (by simp)) _).setCell (.inl (by simp)) _), .inr nu⟩
    rw [EV.out, EM.out]
    have C : Chg [g] w2 ((w2.setCell ⟨g, 0, none⟩ (.slice ao2 bs.length c2)).setCell ⟨g, 1, none⟩ (.int .i64 ((n : Int) + 1))) := ((Chg.refl _ _).setCell (.inl (by simp)) _).setCell (.inl (by simp)) _
    refine ⟨(P2.out.set 0 _).set 1 _, ?_, fun e => ?_, ?_, H.out.new⟩
    · rw [Xr.ors_length]
      refine ownsRow_base (owns_chg O.out C (fun k hk hm => ?_)) (by simp; omega)
      obtain rfl : k = g := by simpa using hm
      have := nu k hk
      omega
    · have := nu g e
      omega
    · refine Xr.ors_bs (fun r hr => ?_) _
      rcases List.mem_cons.1 hr with rfl | hr
      · exact H.out.bytes
      · obtain rfl : r = _ := List.mem_singleton.1 hr
        exact nats_bs HB.out
  · have E : Hid (addErr bs xs = 4) := by show _ = _; unfold addErr; rw [if_neg hl]
    have EV : Hid (addVal bs xs = bs) := by show _ = _; unfold addVal; rw [if_neg hl]
    have EM : Hid (addMany bs n xs = n) := by show _ = _; unfold addMany; rw [if_neg hl]
    have hb : ((xs.length : Int) == (bs.length : Int)) = false := beq_false_of_ne (by omega)
    have hb2 : ((xs.length : Int) != (bs.length : Int)) = true := by simp; omega
    go_enter Try.func35, Try.ntmps35
    go_wp2_with fail
    go_ret
    exact ⟨by rw [E.out]; rfl, .slice uo bs.length uc, by rw [EV.out, EM.out]; exact H, Chg.refl _ _, .inl rfl⟩

end Go.Proofs.Ytaciamnfkidmfaa
