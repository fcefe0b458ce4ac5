/-
  The document's packer: bytes by the slice, and so many of one. By an AI agent.
-/
import Derived.Test.YtbinoailpceonaaRefPack
import Derived.Test.YtbinoailpceonaaLeRaw
namespace Go.Proofs.Ytbinoailpceonaa
open Go.RowKit

theorem run_append_nothing {P : Program} (w : World) (base : Nat) (t ty e : TypeId) (i : TypeInfo) (size : Nat) (ht : P.underlying t = some (.slice e)) (hi : P.info? e = some i)
    (v : Value) (n : Nat) (xs : List Value) (hown : w.ownsRow base e size v n xs) (c : Nat) :
    (Builtin.append_ #[t, t] ty #[v, .slice none 0 c]).run P w = .ok v w := by
  rcases hown.2 with ⟨rfl, rfl⟩ | ⟨g, cap, cur, rfl, _, _, hnc, _⟩
  · simp [Builtin.append_, run_underlying ht, sizeOf, typeInfo, hi, Builtin.lenOf, Builtin.firstCells]
  · simp [Builtin.append_, run_underlying ht, sizeOf, typeInfo, hi, Builtin.lenOf, Builtin.firstCells, hnc, storeCells]

theorem wpList_append_nothing {P : Program} (w : World) {ops : Array Oper} {rest : List Oper} {o : Oper} {a : Act} {Q : Exit → Act → World → Prop} (hgd : o.guard = none) (s x : Operand) (t : TypeId)
    (ho : o.op = .call { callee := .builtin .append, args := #[s, x], argTypes := #[t, t] })
    (base : Nat) (e : TypeId) (i : TypeInfo) (size : Nat) (ht : P.underlying t = some (.slice e)) (hi : P.info? e = some i)
    (v : Value) (n : Nat) (xs : List Value) (hs : a.eval s = v) (hown : w.ownsRow base e size v n xs) (c : Nat) (hx : a.eval x = .slice none 0 c)
    (h : wpList P ops Q rest (a.put o.dst v) w) : wpList P ops Q (o :: rest) a w := by
  refine wpList_plain hgd fun K hK => ?_
  have hr := run_append_nothing (P := P) w base t o.type e i size ht hi v n xs hown c
  unfold Oper.wp
  simp [execOp, ho, resolve, invoke, builtin, hs, hx, hr, Result.andThen]
  exact hK _ _ h

/-- What one append leaves of the document's packer, before its result is stored. -/
structure Grew (w0 : World) (b : Nat) (hv : Value) (s : RP) (zs : List Int) (wn : World) (hv' : Value) : Prop where
  step : RpStep w0 b hv { s with had := zs } (wn.setCell ⟨b, 1, none⟩ hv') hv'
  free : wn.frozen? ⟨b, 1, none⟩ = false
  cell : ∃ u, wn.cell? ⟨b, 1, none⟩ = some u
  shape : ∃ no nn nc, hv' = .slice no nn nc

theorem Grew.of {w0 w wn wm : World} {b : Nat} {hv hv1 hv' : Value} {s : RP} {ys news : List Int} {u : List Value} (hu : u = news.map (Value.int .u8)) (h : RpStep w0 b hv { s with had := ys } w hv1) (hl : ys.length + news.length ≤ s.size)
    (hm : Chg [] w wm) (ho : wn.ownsRow (b + 1) 5 1 hv' (ys.length + news.length) (ys.map (Value.int .u8) ++ u)) (hg : wm.grownBy wn hv1.ownBlock)
    (hb : hv'.ownBlock = hv1.ownBlock ∨ ∃ K, hv'.ownBlock = some K ∧ w.heap.size ≤ K) : Grew w0 b hv s (ys ++ news) wn hv' := by
  have hpb := (h.rp.pb.chg hm (by simp)).chg (chg_of_grown hg) (fun hm2 => by have := (h.rp.own.lt b (by simpa using hm2)).1; omega)
  exact ⟨RpStep.grow hu h hl hm ho hg hb, hpb.free 1, ⟨_, hpb.cell (j := 1) rfl⟩, by obtain ⟨a, c, h⟩ := owns_slice ho; exact ⟨_, _, _, h⟩⟩

set_option maxHeartbeats 1000000 in
set_option maxRecDepth 100000 in
theorem refRaw_some (b : Nat) (hv : Value) (s : RP) (ad : Addr) (c : Nat) (xs : List Int) (w : World) (h : Rp w b hv s) (hx : ∀ j u, (xs.map (Value.int .u8))[j]? = some u → w.cell? (ad.add j) = some u) (hbig : xs.length ≤ 140737488355328) :
    Calls Try.prog 48 #[.pointer (some ⟨b, 0, none⟩), .slice (some ad) xs.length c] w (RpDone w b hv (s.put xs)) := by
  have hf := fits_any b hv s xs.length w h (by omega)
  obtain ⟨i0, hi, hz0, hz1, hz2⟩ := info_parts info_u8
  replace hi := Lib.hid hi
  replace hz0 := Lib.hid hz0
  replace hz1 := Lib.hid hz1
  replace hz2 := Lib.hid hz2
  have htop := h.top
  have H := Lib.hid h
  have X := Lib.hid hx
  have c1 := h.c1
  clear h hx
  go_enter Try.func48, Try.ntmps48
  go_wp2_with fail
  refine hf.mono ?_
  clear hf
  rintro e w1 (⟨h0, h1, rfl, q, rfl⟩ | ⟨-, rfl, hst⟩)
  · have h0' := Lib.hid h0
    clear h0
    have J := Lib.hid ((RpStep.refl H.out).drewN q)
    have hbl : b + 1 ≤ (w.drewN q).heap.size := J.out.rp.pb.lt
    have X2 : Hid (∀ j u, (xs.map (Value.int .u8))[j]? = some u → (w.drewN q).cell? (ad.add j) = some u) := X.out
    go_wp2_with (at_builtin; refine wpList_append_three _ rfl (.tmp 12) (.tmp 13) 47 rfl (b + 1) 5 i0 (.int .u8 0) 1 1 Try.underlying47 hi.out hz0.out hz1.out hz2.out rfl (by decide) _ _ _ rfl J.out.rp.own ad xs.length c (xs.map (Value.int .u8)) rfl (by simp) X2.out (by intro u hu; obtain ⟨x, _, rfl⟩ := List.mem_map.1 hu; rfl) (by unfold maxLen; omega) (by omega) hbl ?_)
    intro hv2 wn ol gr nb
    have G : Hid (Grew w b hv s (s.had ++ xs) wn hv2) := Grew.of (news := xs) rfl (h := J.out) h1 (Chg.refl _ _) ol.out gr.out (by
      rcases nb.out with q | ⟨q, _⟩
      · exact .inl q
      · exact .inr ⟨_, q, Nat.le_refl _⟩)
    have f1 := G.out.free
    obtain ⟨u, hu⟩ := G.out.cell
    obtain ⟨no, nn, nc, hnv⟩ := G.out.shape
    subst hnv
    have hfin := Lib.hid (RP.put_fit (xs := xs) h0'.out h1)
    clear ol gr nb J
    go_wp2_with fail
    go_end0
    exact ⟨_, rfl, by rw [hfin.out]; exact G.out.step⟩
  · go_wp2_with fail
    go_end0
    exact ⟨_, rfl, hst _ rfl⟩

set_option maxHeartbeats 1000000 in
set_option maxRecDepth 100000 in
theorem refRaw_none (b : Nat) (hv : Value) (s : RP) (c : Nat) (w : World) (h : Rp w b hv s) :
    Calls Try.prog 48 #[.pointer (some ⟨b, 0, none⟩), .slice none 0 c] w (RpDone w b hv (s.put [])) := by
  obtain ⟨ho, hc, rfl⟩ := owns_slice h.own
  have hf := fits_any b _ s 0 w h (by omega)
  obtain ⟨i0, hi, hz0, hz1, hz2⟩ := info_parts info_u8
  replace hi := Lib.hid hi
  clear hz0 hz1 hz2
  have htop := h.top
  have H := Lib.hid h
  have c1 := h.c1
  have f1 := h.pb.free 1
  clear h
  go_enter Try.func48, Try.ntmps48
  go_wp2_with fail
  refine hf.mono ?_
  clear hf
  rintro e w1 (⟨h0, h1, rfl, q, rfl⟩ | ⟨-, rfl, hst⟩)
  · have h0' := Lib.hid h0
    clear h0
    have J := Lib.hid ((RpStep.refl H.out).drewN q)
    go_wp2_with (at_builtin; refine wpList_append_nothing _ rfl (.tmp 12) (.tmp 13) 47 rfl (b + 1) 5 i0 1 Try.underlying47 hi.out _ _ _ rfl J.out.rp.own c rfl ?_)
    have hfin := Lib.hid (RP.put_fit (xs := []) h0'.out h1)
    go_end0
    refine ⟨.slice ho s.had.length hc, rfl, ?_⟩
    rw [hfin.out, List.append_nil]
    have c2 : Chg [b] w ((w.drewN q).setCell ⟨b, 1, none⟩ (.slice ho s.had.length hc)) := ((Chg.refl _ _).drewN q).setCell (.inl (by simp)) _
    exact ⟨⟨(J.out.rp.pb.set 1 _), owns_chg H.out.own c2 (fun k hk => by have := (H.out.own.lt k hk).1; simp; omega), H.out.le, H.out.top, H.out.bad⟩, c2.mono (by simp), .inl rfl⟩
  · go_wp2_with fail
    go_end0
    exact ⟨_, rfl, hst _ rfl⟩

theorem refRaw_any (b : Nat) (hv : Value) (s : RP) (bv : Value) (xs : List Int) (w : World) (h : Rp w b hv s) (hx : Sl w bv xs) (hbig : xs.length ≤ 140737488355328) :
    Calls Try.prog 48 #[.pointer (some ⟨b, 0, none⟩), bv] w (RpDone w b hv (s.put xs)) := by
  rcases hx with ⟨rfl, ao, c, rfl⟩ | ⟨g, o, c, rfl, hg, hc⟩
  · rcases ao with _ | a
    · exact refRaw_none b hv s c w h
    · exact refRaw_some b hv s a c [] w h (by intro j u hj; simp at hj) (by simp)
  · refine refRaw_some b hv s _ c xs w h (fun j u hj => ?_) hbig
    have hjl : j < xs.length := by simpa using (List.getElem?_eq_some_iff.1 hj).1
    have e : (xs.map (Value.int .u8))[j]? = some (Value.int .u8 (xs.getD j 0)) := by simp [List.getD, List.getElem?_eq_getElem hjl]
    rw [Addr.add_lit, hc j hjl, ← hj, e]

set_option maxHeartbeats 1000000 in
set_option maxRecDepth 100000 in
theorem refFill_pos (b : Nat) (hv : Value) (s : RP) (n : Nat) (v : Int) (w : World) (h : Rp w b hv s) (hn : 0 < n) (hn1 : n ≤ 9223372036854775807) :
    Calls Try.prog 49 #[.pointer (some ⟨b, 0, none⟩), .int .i64 n, .int .u8 v] w (RpDone w b hv (s.put (List.replicate n v))) := by
  have hf := fits_any b hv s n w h hn1
  obtain ⟨i0, hi, hz0, hz1, hz2⟩ := info_parts info_u8
  replace hi := Lib.hid hi
  replace hz0 := Lib.hid hz0
  replace hz1 := Lib.hid hz1
  replace hz2 := Lib.hid hz2
  have htop := h.top
  have H := Lib.hid h
  clear h
  go_enter Try.func49, Try.ntmps49
  go_wp2_with fail
  refine hf.mono ?_
  clear hf
  rintro e w1 (⟨h0, h1, rfl, q, rfl⟩ | ⟨-, rfl, hst⟩)
  · have h0' := Lib.hid h0
    clear h0
    go_wp2_with fail
    go_loopw [6] (fun i wr => ∃ k : Nat, k ≤ n ∧ i = .int .i64 k ∧ ∃ hk, Hid (RpStep w b hv { s with had := s.had ++ List.replicate k v } wr hk)) (fun i _ => n - (intOf i).toNat)
    case atStart => exact ⟨0, Nat.zero_le _, rfl, hv, by rw [List.replicate_zero, List.append_nil]; exact (RpStep.refl H.out).drewN q⟩
    case round =>
      obtain ⟨k, hk, rfl, hk', J⟩ := hrel
      by_cases hlt : k < n
      · obtain ⟨ys, hys⟩ : ∃ ys, s.had ++ List.replicate k v = ys := ⟨_, rfl⟩
        have hyl : ys.length = s.had.length + k := by rw [← hys, List.length_append, List.length_replicate]
        have hy1 : ys.length + 1 ≤ s.size := by omega
        rw [hys] at J
        have HYS := Lib.hid hys
        clear hys hyl
        have c1 := J.out.rp.c1
        have f1 := J.out.rp.pb.free 1
        have hbl := J.out.rp.pb.lt
        go_wp2_with (with_reducible refine wpList_append_three _ rfl (.tmp 23) (.tmp 25) 47 rfl (b + 1) 5 i0 (.int .u8 0) 1 1 Try.underlying47 hi.out hz0.out hz1.out hz2.out rfl (by decide) _ _ _ rfl (J.out.rp.own.alloc _) ⟨wr.heap.size, 0, none⟩ 1 1 [.int .u8 v] rfl rfl (new_cell _ _ _) (by simp [Value.oneCell']) (by unfold maxLen; simp only; omega) (by simp only; omega) (by simp; omega) ?_)
        intro hv2 wn ol gr nb
        have G : Hid (Grew w b hv s (ys ++ [v]) wn hv2) := Grew.of (news := [v]) rfl (h := J.out) hy1 ((Chg.refl _ _).alloc (.cells #[.int .u8 v] 5)) ol.out gr.out (by
          rcases nb.out with q | ⟨q, _⟩
          · exact .inl q
          · exact .inr ⟨_, q, by omega⟩)
        have f2 := G.out.free
        obtain ⟨u, hu⟩ := G.out.cell
        obtain ⟨no, nn, nc, hnv⟩ := G.out.shape
        subst hnv
        rw [← HYS.out, List.append_assoc, ← replicate_snoc] at G
        clear ol gr nb J c1 f1
        go_wp2_with fail
        exact ⟨⟨k + 1, by omega, by go_num, _, G.out.step⟩, by simp [intOf]; omega⟩
      · obtain rfl : k = n := by omega
        have hfin := Lib.hid (RP.put_fit (xs := List.replicate k v) h0'.out (by rw [List.length_replicate]; exact h1))
        go_wp2_with fail
        go_end0
        exact ⟨_, rfl, by rw [hfin.out]; exact J.out⟩
  · go_wp2_with fail
    go_end0
    exact ⟨_, rfl, hst _ (List.length_replicate ..)⟩

theorem put_nil01 {w : World} {b : Nat} {hv : Value} {s : RP} (h : Rp w b hv s) : s.put [] = s := by
  unfold RP.put
  by_cases h0 : s.bad = 0
  · rw [if_pos h0, if_pos (by simpa using h.le), List.append_nil]
  · rw [if_neg h0]

set_option maxHeartbeats 1000000 in
theorem refFill_any (b : Nat) (hv : Value) (s : RP) (n v : Int) (w : World) (h : Rp w b hv s) (hn1 : n ≤ 9223372036854775807) :
    Calls Try.prog 49 #[.pointer (some ⟨b, 0, none⟩), .int .i64 n, .int .u8 v] w (RpDone w b hv (s.put (List.replicate n.toNat v))) := by
  by_cases hn : 0 < n
  · obtain ⟨m, rfl⟩ := Int.eq_ofNat_of_zero_le (show 0 ≤ n by omega)
    rw [Int.toNat_natCast]
    exact refFill_pos b hv s m v w h (by omega) (by omega)
  · rw [show n.toNat = 0 by omega, List.replicate_zero, put_nil01 h]
    have H := Lib.hid (RpStep.refl h)
    clear h
    go_enter Try.func49, Try.ntmps49
    go_wp2_with fail
    go_end0
    exact ⟨_, rfl, H.out⟩

end Go.Proofs.Ytbinoailpceonaa
