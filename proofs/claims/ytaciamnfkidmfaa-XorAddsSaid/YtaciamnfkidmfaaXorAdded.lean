/-
  XorAdds walked to its end. By an AI agent.
-/
import Derived.Test.YtaciamnfkidmfaaXorAdds
namespace Go.Proofs.Ytaciamnfkidmfaa
open Go.RowKit

theorem mem_two {α : Type} (l : List α) (x y : α) : x ∈ l ++ [x] ++ [y] ∧ y ∈ l ++ [x] ++ [y] := ⟨by simp, by simp⟩

set_option maxHeartbeats 8000000 in
set_option maxRecDepth 100000 in
theorem adds_good (v : Value) (N : Nat) (ds : List RowD) (w : World) (h : Rws w v ds) (hmb : muchB ds = false) (hl : ds.length ≤ 1000) (hN : N ≤ 4096) :
    Calls Try.prog 7 #[.int .i64 (N : Int), v] w fun e w' => e = .returned (.bool true) ∧ Chg [] w w' := by
  obtain ⟨ao, c, rfl⟩ := h.slice
  have hm := much_any _ _ _ h
  rw [hmb] at hm
  obtain ⟨hn, hsm0⟩ := not_much hmb
  have HOK : Hid (Oks w ds) := fun d hd => by
    obtain ⟨q1, q2, q3⟩ := h.each d hd
    exact ⟨q1, q2, by have := hsm0 d hd; omega⟩
  have HR := Lib.hid h
  have hl2 : ¬ (1000 : Int) < ds.length := by omega
  have hgood : Hid (¬ ((N : Int) < 0 ∨ (4096 : Int) < (N : Int))) := fun hg => by omega
  have hsz : Hid (-9223372036854775808 ≤ (N : Int) ∧ (N : Int) ≤ 9223372036854775807) := ⟨by omega, by omega⟩
  clear h hmb hsm0
  go_enter Try.func7, Try.ntmps7
  go_wp2_with fail
  refine hm.mono ?_
  clear hm
  rintro e w' ⟨rfl, rfl⟩
  go_wp2_with fail
  refine (new_any N w hsz.out).mono ?_
  rintro e w1 h1
  obtain ⟨gs, Ss, rfl, S1, D1⟩ : ∃ gs Ss, e = .returned (.tuple #[.pointer (some ⟨gs, 0, none⟩), .int .u16 0]) ∧ Hid (SumIn w1 w.heap.size gs Ss (Xr.noughts N) 0) ∧ Hid (Chg [] w w1) := by
    rcases h1 with ⟨hg, _⟩ | ⟨_, gs, Ss, he, s, D⟩
    · exact absurd hg hgood.out
    · exact ⟨gs, Ss, he, s, D⟩
  clear h1
  go_wp2_with fail
  refine (new_any N w1 hsz.out).mono ?_
  rintro e w2 h1
  obtain ⟨gt, St, rfl, S2, D2⟩ : ∃ gt St, e = .returned (.tuple #[.pointer (some ⟨gt, 0, none⟩), .int .u16 0]) ∧ Hid (SumIn w2 w1.heap.size gt St (Xr.noughts N) 0) ∧ Hid (Chg [] w1 w2) := by
    rcases h1 with ⟨hg, _⟩ | ⟨_, gs, Ss, he, s, D⟩
    · exact absurd hg hgood.out
    · exact ⟨gs, Ss, he, s, D⟩
  clear h1
  go_wp2_with fail
  refine (refNew_any N w2).mono ?_
  rintro e w3 h1
  obtain ⟨gr, u0, rfl, S3, D3⟩ : ∃ gr u0, e = .returned (.pointer (some ⟨gr, 0, none⟩)) ∧ Hid (RSum w3 w2.heap.size gr u0 (Xr.noughts N) 0) ∧ Hid (Chg [] w2 w3) := by
    rcases h1 with ⟨hg, _⟩ | ⟨_, gs, Ss, he, s, D⟩
    · exact absurd hg hgood.out
    · exact ⟨gs, Ss, he, s, D⟩
  clear h1
  have hXl : (Xr.noughts N).length = N := by simp [Xr.noughts]
  have SB := Lib.hid (sums_begin S1.out D1.out S2.out D2.out S3.out D3.out)
  have D := Lib.hid (D1.out.trans (D2.out.trans D3.out))
  clear S1 S2 S3 D1 D2 D3
  go_wp2_with fail
  refine (known_any w3).mono ?_
  rintro e w4 ⟨rfl, D4⟩
  have I0 : Hid (AInv w (w4.alloc (.cells #[.slice none 0 0, .slice none 0 0, .slice none 0 0, .slice none 0 0, .slice none 0 0, .slice none 0 0, .slice none 0 0, .slice none 0 0, .slice none 0 0, .slice none 0 0, .slice none 0 0, .slice none 0 0] 50)) w.heap.size gs gt gr w4.heap.size N 0) := by
    have hz := (D.out.trans D4.out).size
    refine ⟨Ss, St, u0, .slice none 0 0, [], Xr.noughts N, 0, ⟨(SB.out.chg D4.out (by simp)).chg ((Chg.refl [] w4).alloc _) (fun _ _ hm => by cases hm), Desk.begin (Outs.nil w4 w.heap.size), fun k hk => ?_, (fun p hp => by cases hp), Nat.le_trans hz ((Chg.refl [] w4).alloc _).size, Nat.le_refl _, hz, (D.out.trans D4.out).alloc _⟩, hXl, Nat.le_refl _, rfl, fun p hp => by cases hp⟩
    have := ((SB.out.chg D4.out (by simp)).lt hk).2
    exact ⟨by omega, by simp [Value.ownBlock], fun j v xs hj => by simp at hj⟩
  generalize hwb : w4.alloc (.cells #[.slice none 0 0, .slice none 0 0, .slice none 0 0, .slice none 0 0, .slice none 0 0, .slice none 0 0, .slice none 0 0, .slice none 0 0, .slice none 0 0, .slice none 0 0, .slice none 0 0, .slice none 0 0] 50) = w5 at *
  obtain ⟨bk, hbk⟩ : ∃ bk, bk = w4.heap.size := ⟨_, rfl⟩
  rw [← hbk] at I0
  clear SB D hXl
  go_wp2_with fail
  try rw [hwb]
  rw [← hbk]
  clear hwb hbk D4
  go_loopw [11] (fun i wr => ∃ k : Nat, k ≤ ds.length ∧ i = .int .i64 k ∧ Hid (AInv w wr w.heap.size gs gt gr bk N k)) (fun i _ => ds.length - (intOf i).toNat)
  case atStart => exact ⟨0, Nat.zero_le _, rfl, I0⟩
  case round =>
    obtain ⟨k, hk, rfl, I⟩ := hrel
    clear I0
    obtain ⟨Ss, St, u, lv, vs, bs, n, hQ, hbl, hni, hvl, hvs⟩ := I.out
    clear I
    have Q := Lib.hid hQ
    have HV := Lib.hid hvs
    clear hQ hvs
    by_cases hlt : k < ds.length
    · obtain ⟨d, hd⟩ : ∃ d, ds[k]? = some d := ⟨_, List.getElem?_eq_getElem hlt⟩
      obtain ⟨b, o, hao, _, _⟩ := HR.out.at hd
      subst hao
      have HDM := Lib.hid (List.mem_of_getElem? hd)
      obtain ⟨eo, ec, hv⟩ := (HOK.out d HDM.out).1.slice
      have CK : Hid (∀ w', Chg [] w w' → w'.cell? ⟨b, o + k, none⟩ = some (.slice eo d.bs.length ec)) := fun w' D' => by
        obtain ⟨b', o', he, _, R⟩ := (HR.out.chg D').at hd
        obtain ⟨rfl, rfl⟩ : b = b' ∧ o = o' := by simpa using he
        rw [← hv]
        exact R.c0
      have SL : Hid (∀ w', Chg [] w w' → Sl w' (.slice eo d.bs.length ec) d.bs) := fun w' D' => by
        have := (HOK.out d HDM.out).1.chgNil D'
        rw [hv] at this
        exact this
      have hdby := Lib.hid (HOK.out d HDM.out).2.1
      have hdl := (HOK.out d HDM.out).2.2
      clear hd hv
      have k0 : (0 : Int) ≤ k := Int.natCast_nonneg _
      have k1 : (k : Int) < ds.length := by omega
      have hb6 : bs.length ≤ 1000000 := by omega
      have hn6 : n ≤ 1000000 := by omega
      have c0 := CK.out wr Q.out.chg
      have la := lent_any _ d.bs wr (SL.out wr Q.out.chg) (by omega)
      replace la := Lib.hid la
      go_wp2_with fail
      refine la.out.mono ?_
      clear la c0
      rintro e w1' ⟨gb, rfl, LB, C, hgb⟩
      have nF : Hid (¬ Frn ⟨gs, Ss, undef, bs, n⟩ ⟨gt, St, undef, bs, n⟩ ⟨gr, gr :: u.ownBlock.toList, u, bs, n⟩ gb) := fun hf => by
        have := (Q.out.sums.lt hf).2
        omega
      have nB : Hid (Bk.not bk lv vs gb) := Q.out.desk.bk.new hgb
      have gB : Hid (w.heap.size ≤ gb) := Nat.le_trans Q.out.base hgb
      replace Q := Lib.hid (Q.out.quiet C)
      replace LB := Lib.hid LB
      clear C hgb
      have ad := sit_addS w w.heap.size bk ⟨gs, Ss, undef, bs, n⟩ _ _ lv vs (.slice (some ⟨gb, 0, none⟩) d.bs.length (d.bs.length + 2)) d.bs w1' Q.out (Blk.sl LB.out) (fun _ k2 hk2 hm => by
        obtain rfl : gb = k2 := by simpa [Value.ownBlock] using hk2
        exact nF.out (.inl hm)) hdby.out hb6 hdl hn6
      replace ad := Lib.hid ad
      go_wp2_with fail
      refine ad.out.mono ?_
      clear ad
      rintro e w2' ⟨rfl, Ss2, Q2, C, NF⟩
      have nF2 := Lib.hid (NF.out gb LB.out.lt nF.out)
      replace LB := Lib.hid (LB.out.chg C.out (fun hm => nF.out (.inl hm)))
      clear C NF nF Q
      have c0 := CK.out w2' Q2.out.chg
      have wa := whole_any gb _ d.bs w2' LB.out (SL.out w2' Q2.out.chg) (by omega)
      replace wa := Lib.hid wa
      go_wp2_with fail
      refine wa.out.mono ?_
      clear wa c0
      rintro e w3' ⟨rfl, q, hw⟩
      have C : Hid (Chg [] w2' w3') := by rw [hw]; exact (Chg.refl [] _).drewN _
      clear hw
      replace Q2 := Lib.hid (Q2.out.quiet C.out)
      replace LB := Lib.hid (LB.out.chg C.out (by simp))
      clear C
      have sp := spoil_any gb d.bs.length (d.bs ++ [91, 92]) w3' LB.out (by simp) (by omega)
      replace sp := Lib.hid sp
      go_wp2_with fail
      refine sp.out.mono ?_
      clear sp
      rintro e w4' ⟨rfl, C⟩
      have Q4 := Lib.hid (Q2.out.other C nF2.out nB.out gB.out)
      clear C Q2 nF2 nB gB LB
      have c0 := CK.out w4' Q4.out.chg
      have ra := refAdd_any w.heap.size gr u bs n _ d.bs w4' Q4.out.sums.r (SL.out w4' Q4.out.chg) hdby.out hb6 hdl hn6 Q4.out.base
      replace ra := Lib.hid ra
      go_wp2_with fail
      refine ra.out.mono ?_
      clear ra c0
      rintro e w5' ⟨rfl, u2, R2, C, hu2⟩
      have Q5 := Lib.hid (Q4.out.addR R2.out C.out hu2)
      clear C Q4 hu2 R2
      have c0 := CK.out w5' Q5.out.chg
      have ta := sit_addS w w.heap.size bk ⟨gt, St, undef, bs, n⟩ _ _ lv vs _ d.bs w5' Q5.out.swap (SL.out w5' Q5.out.chg) (fun h0 k2 hk2 hm => by
        have := (SL.out w (Chg.refl _ _)).lt h0 k2 hk2
        have := (Q5.out.sums.t.lt k2 hm).1
        omega) hdby.out hb6 hdl hn6
      replace ta := Lib.hid ta
      go_wp2_with fail
      refine ta.out.mono ?_
      clear ta c0
      rintro e w6' ⟨rfl, St2, Q6, C, NF⟩
      replace Q6 := Lib.hid Q6.out.swap
      clear C NF Q5
      have hX1 : Hid ((addVal bs d.bs).length = N) := by show _ = _; rw [addVal_length]; exact hbl
      have hX2 : Hid (addMany bs n d.bs ≤ n + 1) := by show _ ≤ _; unfold addMany; split <;> omega
      generalize addVal bs d.bs = X at *
      generalize addMany bs n d.bs = n2 at *
      generalize addErr bs d.bs = E at *
      have hX6 : X.length ≤ 1000000 := by have := hX1.out; omega
      have HX6 := Lib.hid hX6
      have va := value_any w.heap.size gs Ss2 X n2 w6' Q6.out.sums.s hX6
      replace va := Lib.hid va
      clear hX6
      go_wp2_with fail
      refine va.out.mono ?_
      clear va
      rintro e w7' ⟨x, rfl, O, C⟩
      obtain ⟨x1, x2, rfl⟩ := owns_slice O.out
      replace Q6 := Lib.hid (Q6.out.more C.out O.out)
      clear O C
      have va := value_any w.heap.size gt St2 X n2 w7' Q6.out.sums.t HX6.out
      replace va := Lib.hid va
      go_wp2_with fail
      refine va.out.mono ?_
      clear va
      rintro e w8' ⟨y, rfl, O, C⟩
      obtain ⟨y1, y2, rfl⟩ := owns_slice O.out
      replace Q6 := Lib.hid (Q6.out.more C.out O.out)
      clear O C
      have pa := sit_put w w.heap.size bk _ _ _ lv vs _ _ X w8' Q6.out (by omega)
      replace pa := Lib.hid pa
      go_wp2_with fail
      refine pa.out.mono ?_
      clear pa Q6
      rintro e w9' ⟨rfl, lv2, Q7⟩
      have pa := sit_put w w.heap.size bk _ _ _ lv2 _ _ _ X w9' Q7.out (by rw [List.length_append]; simp; omega)
      replace pa := Lib.hid pa
      go_wp2_with fail
      refine pa.out.mono ?_
      clear pa Q7
      rintro e wa' ⟨rfl, lv3, Q8⟩
      have own : wa'.ownsRow w.heap.size 5 1 u2 X.length ((ints X).map (Value.int .u8)) := Q8.out.sums.r.own
      obtain ⟨u1, u3, rfl⟩ := owns_slice own
      have r0 := Q8.out.sums.r.blk.cell (j := 0) rfl
      have r1 := Q8.out.sums.r.blk.cell (j := 1) rfl
      have SR := Lib.hid (own_sl own)
      have SX := Lib.hid (Q8.out.desk.bk.sl (mem_two vs _ _).1)
      have SY := Lib.hid (Q8.out.desk.bk.sl (mem_two vs _ _).2)
      have hxi : (ints X).length ≤ 140737488355328 := by rw [ints_length]; have := HX6.out; omega
      have hxb : Hid (By (ints X)) := ints_by Q8.out.sums.s.bytes
      have q3 := fun q => nought_any w.heap.size gs Ss2 X n2 (wa'.drewN q) (Q8.out.sums.s.chg ((Chg.refl [] _).drewN q) (by simp)) HX6.out
      have q4 := fun q => refNought_any _ (ints X) (wa'.drewN q) (SR.out.chgNil ((Chg.refl [] _).drewN q)) hxb.out hxi
      rw [nats_ints] at q4
      have q5 : ∀ q v, v = .slice x1 X.length x2 ∨ v = .slice y1 X.length y2 → Calls Try.prog 22 #[v, .slice u1 X.length u3] (wa'.drewN q) fun e w' => e = .returned (.bool true) ∧ ∃ q', w' = (wa'.drewN q).drewN q' := fun q v hv => by
        rcases hv with rfl | rfl
        · exact same_true _ _ (ints X) (wa'.drewN q) (SX.out.chgNil ((Chg.refl [] _).drewN q)) (SR.out.chgNil ((Chg.refl [] _).drewN q)) hxi
        · exact same_true _ _ (ints X) (wa'.drewN q) (SY.out.chgNil ((Chg.refl [] _).drewN q)) (SR.out.chgNil ((Chg.refl [] _).drewN q)) hxi
      have q1 : ∀ q g, g = gs ∨ g = gt → Calls Try.prog 37 #[.pointer (some ⟨g, 0, none⟩)] (wa'.drewN q) fun e w' => e = .returned (.int .i64 (n2 : Int)) ∧ ∃ q', w' = (wa'.drewN q).drewN q' := fun q g hg => by
        rcases hg with rfl | rfl
        · exact count_any w.heap.size _ Ss2 X n2 (wa'.drewN q) (Q8.out.sums.s.chg ((Chg.refl [] _).drewN q) (by simp))
        · exact count_any w.heap.size _ St2 X n2 (wa'.drewN q) (Q8.out.sums.t.chg ((Chg.refl [] _).drewN q) (by simp))
      replace q1 := Lib.hid q1
      replace q3 := Lib.hid q3
      replace q4 := Lib.hid q4
      replace q5 := Lib.hid q5
      generalize X.all (· == 0) = nX at *
      clear own
      go_wp2_with fail
      go_quiet (first
        | (go_at_call 22; exact Calls.quiet_of (q5.out _ _ (by simp)))
        | (go_at_call 37; exact Calls.quiet_of (q1.out _ _ (by simp)))
        | (go_at_call 38; refine Calls.quiet_of (q3.out _))
        | (go_at_call 39; refine Calls.quiet_of_same ((q4.out _).mono fun _ _ h => ⟨h.1, h.2.symm⟩)))
      go_wp2_with fail
      refine ⟨⟨k + 1, by omega, by go_num, ?_⟩, by simp [intOf]; omega⟩
      refine ⟨Ss2, St2, _, lv3, _, X, n2, Q8.out.quiet ((Chg.refl [] _).drewN _), hX1.out, by have := hX2.out; omega, by simp; omega, fun p hp => ?_⟩
      rcases List.mem_append.1 hp with hp | hp
      · rcases List.mem_append.1 hp with hp | hp
        · exact HV.out p hp
        · rw [List.mem_singleton.1 hp, outOf_len]; exact hX1.out
      · rw [List.mem_singleton.1 hp, outOf_len]; exact hX1.out
    · obtain rfl : k = ds.length := by omega
      have HX6 : Hid (bs.length ≤ 1000000) := by show _ ≤ _; omega
      have HBL := Lib.hid hbl
      clear hbl
      have va := value_any w.heap.size gs Ss bs n wr Q.out.sums.s HX6.out
      replace va := Lib.hid va
      go_wp2_with fail
      refine va.out.mono ?_
      clear va
      rintro e w7' ⟨x, rfl, O, C⟩
      obtain ⟨x1, x2, rfl⟩ := owns_slice O.out
      replace Q := Lib.hid (Q.out.more C.out O.out)
      clear O C
      have va := value_any w.heap.size gs Ss bs n w7' Q.out.sums.s HX6.out
      replace va := Lib.hid va
      go_wp2_with fail
      refine va.out.mono ?_
      clear va
      rintro e w8' ⟨y, rfl, O, C⟩
      obtain ⟨y1, y2, rfl⟩ := owns_slice O.out
      replace Q := Lib.hid (Q.out.more C.out O.out)
      clear O C
      have pa := sit_put w w.heap.size bk _ _ _ lv vs _ _ bs w8' Q.out (by omega)
      replace pa := Lib.hid pa
      go_wp2_with fail
      refine pa.out.mono ?_
      clear pa Q
      rintro e w9' ⟨rfl, lv2, Q7⟩
      have pa := sit_put w w.heap.size bk _ _ _ lv2 _ _ _ bs w9' Q7.out (by rw [List.length_append]; simp; omega)
      replace pa := Lib.hid pa
      go_wp2_with fail
      refine pa.out.mono ?_
      clear pa Q7
      rintro e wa' ⟨rfl, lv3, Q8⟩
      have own : wa'.ownsRow w.heap.size 5 1 u bs.length ((ints bs).map (Value.int .u8)) := Q8.out.sums.r.own
      have r1 : wa'.cell? ⟨gr, 1, none⟩ = some (.int .i64 (n : Int)) := Q8.out.sums.r.blk.cell (j := 1) rfl
      obtain ⟨u1, u3, hu⟩ := owns_slice own
      have SR : Hid (Sl wa' (.slice u1 bs.length u3) (ints bs)) := by rw [← hu]; exact own_sl own
      have r0 : wa'.cell? ⟨gr, 0, none⟩ = some (.slice u1 bs.length u3) := by rw [← hu]; exact Q8.out.sums.r.blk.cell (j := 0) rfl
      have SX := Lib.hid (Q8.out.desk.bk.sl (mem_two vs _ _).1)
      have SY := Lib.hid (Q8.out.desk.bk.sl (mem_two vs _ _).2)
      have hxi : (ints bs).length ≤ 140737488355328 := by rw [ints_length]; have := HX6.out; omega
      have hxb : Hid (By (ints bs)) := ints_by Q8.out.sums.s.bytes
      have q3 := fun q => nought_any w.heap.size gs Ss bs n (wa'.drewN q) (Q8.out.sums.s.chg ((Chg.refl [] _).drewN q) (by simp)) HX6.out
      have q1 := fun q => count_any w.heap.size gs Ss bs n (wa'.drewN q) (Q8.out.sums.s.chg ((Chg.refl [] _).drewN q) (by simp))
      have q4 := fun q => refNought_any _ (ints bs) (wa'.drewN q) (SR.out.chgNil ((Chg.refl [] _).drewN q)) hxb.out hxi
      rw [nats_ints] at q4
      have q5 : ∀ q v, v = .slice x1 bs.length x2 ∨ v = .slice y1 bs.length y2 → Calls Try.prog 22 #[v, .slice u1 bs.length u3] (wa'.drewN q) fun e w' => e = .returned (.bool true) ∧ ∃ q', w' = (wa'.drewN q).drewN q' := fun q v hv => by
        rcases hv with rfl | rfl
        · exact same_true _ _ (ints bs) (wa'.drewN q) (SX.out.chgNil ((Chg.refl [] _).drewN q)) (SR.out.chgNil ((Chg.refl [] _).drewN q)) hxi
        · exact same_true _ _ (ints bs) (wa'.drewN q) (SY.out.chgNil ((Chg.refl [] _).drewN q)) (SR.out.chgNil ((Chg.refl [] _).drewN q)) hxi
      have ow := fun q => sit_own w w.heap.size bk _ _ _ lv3 _ _ (wa'.drewN q) (Q8.out.quiet ((Chg.refl [] _).drewN q)) (by rw [List.length_append, List.length_append]; simp; omega) (fun p hp => by
        rcases List.mem_append.1 hp with hp | hp
        · rcases List.mem_append.1 hp with hp | hp
          · have := HV.out p hp; omega
          · rw [List.mem_singleton.1 hp, outOf_len]; have := HX6.out; omega
        · rw [List.mem_singleton.1 hp, outOf_len]; have := HX6.out; omega)
      replace q1 := Lib.hid q1
      replace q3 := Lib.hid q3
      replace q4 := Lib.hid q4
      replace q5 := Lib.hid q5
      replace ow := Lib.hid ow
      generalize bs.all (· == 0) = nX at *
      clear own hu
      go_wp2_with fail
      go_quiet (first
        | (go_at_call 22; exact Calls.quiet_of (q5.out _ _ (by simp)))
        | (go_at_call 37; exact Calls.quiet_of (q1.out _))
        | (go_at_call 38; exact Calls.quiet_of (q3.out _))
        | (go_at_call 39; exact Calls.quiet_of_same ((q4.out _).mono fun _ _ h => ⟨h.1, h.2.symm⟩)))
      go_wp2_with fail
      refine (ow.out _).mono ?_
      rintro e w' ⟨rfl, C⟩
      go_wp2_with fail
      go_ret
      exact ⟨rfl, C.out⟩

theorem adds_walk (v : Value) (size : Int) (ds : List RowD) (w : World) (h : Rws w v ds) (hsz : -9223372036854775808 ≤ size ∧ size ≤ 9223372036854775807) :
    Calls Try.prog 7 #[.int .i64 size, v] w fun e w' => e = .returned (.bool true) ∧ Chg [] w w' := by
  by_cases hc : muchB ds = true ∨ 1000 < ds.length
  · exact adds_early v size ds w h hc
  · have hmb : muchB ds = false := by
      cases hm : muchB ds with
      | true => exact absurd (.inl hm) hc
      | false => rfl
    have hl : ds.length ≤ 1000 := by
      by_cases h1 : 1000 < ds.length
      · exact absurd (.inr h1) hc
      · omega
    by_cases hbad : size < 0 ∨ 4096 < size
    · exact adds_bad v size ds w h hmb hl hsz hbad
    · obtain ⟨N, rfl⟩ := Int.eq_ofNat_of_zero_le (show 0 ≤ size by omega)
      exact adds_good v N ds w h hmb hl (by omega)

end Go.Proofs.Ytaciamnfkidmfaa
