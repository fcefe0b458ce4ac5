/-
  The program's All; what the laws' walks lean on, for the landed lift. By an AI agent.
-/
import Derived.Test.YtihmegpcbpdipaaLfNext
import Derived.Test.YtihmegpcbpdipaaLfCons
namespace Go.Proofs.Ytihmegpcbpdipaa
open Go.RowKit Go.Maps

/-- What Next has told, while All goes on. -/
def PendH (P row : Nat) (S : List Pd) (A : List Pv) (m r : Int) (dv : Value) (b : Bool) (hd : List Thing) : Prop :=
  (b = false ∧ dOf A = Lf.way row S ∧ ∃ F', hd = [LiftT P [] (Lf.stop row (Lf.way row S)) F']) ∨
  (b = true ∧ ∃ (d : Pd) (e8 : TypeId) (S' : List Pd) (F' : List Nat), m = (d.m : Int) ∧ r = (d.r : Int) ∧ dOf A ++ d :: Lf.way d.r S' = Lf.way row S ∧ Lf.stop d.r (Lf.way d.r S') = Lf.stop row (Lf.way row S) ∧ S'.length ≤ 100000 ∧ hd = [ownT e8 dv (ub d.bs), LiftT P S' d.r F'])

theorem pnext {w0 w : World} {ts : List Thing} {P row row' : Nat} {S S' : List Pd} {F : List Nat} {o : Value} {A : List Pv} (H : Side w0 w (LiftT P S' row' F :: listT o A :: dataT A :: ts)) (hl : S'.length ≤ 100000)
    (hw : dOf A ++ Lf.way row' S' = Lf.way row S) (hs : Lf.stop row' (Lf.way row' S') = Lf.stop row (Lf.way row S)) :
    Calls Try.prog 10 #[.pointer (some ⟨P, 0, none⟩)] w fun e w' => ∃ m r so sn sc b hd, e = .returned (.tuple #[.agg #[.int .i64 m, .int .i64 r, .slice so sn sc], .bool b]) ∧ Hid (PendH P row S A m r (.slice so sn sc) b hd) ∧ Hid (Side w0 w' (hd ++ listT o A :: dataT A :: ts)) := by
  refine (lnext_any w0 w _ P row' S' F hl H).mono ?_
  rintro e w' (⟨rfl, rfl, F', H2⟩ | ⟨d, v, e8, F', h1, h2, rfl, H2⟩)
  · refine ⟨0, 0, none, 0, 0, false, [LiftT P [] row' F'], rfl, .inl ⟨rfl, ?_, F', ?_⟩, H2⟩
    · rw [show Lf.way row' [] = [] from rfl, List.append_nil] at hw
      exact hw
    · rw [← hs]
      rfl
  · obtain ⟨so, sc, rfl⟩ : ∃ so sc, v = .slice so (ub d.bs).length sc := by
      have o : w'.ownsRow 0 e8 1 v (ub d.bs).length (ub d.bs) := H2.out.get 0 rfl
      exact owns_slice o
    refine ⟨(d.m : Int), (d.r : Int), so, _, sc, true, [ownT e8 (.slice so (ub d.bs).length sc) (ub d.bs), LiftT P (Lf.out d S') d.r F'], rfl, .inr ⟨rfl, d, e8, Lf.out d S', F', rfl, rfl, by rw [← hw, h1], ?_, Nat.le_trans few_out hl, rfl⟩, H2⟩
    rw [← hs, h1, Lf.stop_cons]

/-- One patch more in a list that came out. -/
theorem gather1 {w0 w1 wn : World} {ts : List Thing} {n : Nat} {v bv vn : Value} {A : List Pv} {d : Pd} {e8 : TypeId} (h1 : Side w0 w1 (listT v A :: ownT e8 bv (ub d.bs) :: dataT A :: ts))
    (c : Chg v.ownBlock.toList w1 wn) (hn : n = A.length + 1) (ol : wn.ownsRow 0 49 3 vn n ((A.map pvSlot).flatten ++ [.int .i64 (d.m : Int), .int .i64 (d.r : Int), bv])) (nb : ∀ k, vn.ownBlock = some k → v.ownBlock = some k ∨ w1.heap.size ≤ k) :
    Side w0 wn (listT vn (A ++ [(d, bv)]) :: dataT (A ++ [(d, bv)]) :: ts) := by
  have h2 : Side w0 wn (listT vn (A ++ [(d, bv)]) :: ownT e8 bv (ub d.bs) :: dataT A :: ts) := by
    refine h1.turn c (fun k hk => .inl hk) (⟨pv_slots _, ?_⟩ : OwnW 3 wn 0 49 vn ((A ++ [(d, bv)]).map pvSlot)) (fun k hk => ?_)
    · have e : ((A ++ [(d, bv)]).map pvSlot).flatten = (A.map pvSlot).flatten ++ [.int .i64 (d.m : Int), .int .i64 (d.r : Int), bv] := by
        rw [flat_append3]
        rfl
      rw [e, List.length_map, List.length_append, List.length_singleton, ← hn]
      exact ol
    · have hk' : vn.ownBlock = some k := by simpa [listT, wideT] using hk
      rcases nb k hk' with q | q
      · exact .inl (by show k ∈ v.ownBlock.toList; simp [q])
      · exact .inr q
  have h3 : Side w0 wn (ownT e8 bv (ub d.bs) :: dataT A :: listT vn (A ++ [(d, bv)]) :: ts) := (h2.front 2).front 2
  have h4 : Side w0 wn (dataT (A ++ [(d, bv)]) :: listT vn (A ++ [(d, bv)]) :: ts) := by
    unfold dataT
    rw [List.map_append]
    exact h3.pool
  exact h4.front 1

theorem Side.outOf {w0 w : World} {hd : List Thing} {a b q : Thing} {ts : List Thing} (h : Side w0 w (hd ++ a :: b :: q :: ts)) : Side w0 w (q :: (hd ++ a :: b :: ts)) := by
  refine h.perm ?_
  have : (hd ++ a :: b :: q :: ts) = (hd ++ [a, b]) ++ q :: ts := by simp
  rw [this]
  refine List.perm_middle.trans ?_
  simp

set_option maxHeartbeats 4000000 in
set_option maxRecDepth 100000 in
theorem lall_any (w0 w : World) (ts : List Thing) (P row : Nat) (S : List Pd) (F : List Nat) (hl : S.length ≤ 100000) (h : Side w0 w (LiftT P S row F :: ts)) :
    Calls Try.prog 14 #[.pointer (some ⟨P, 0, none⟩)] w fun e w' =>
      ∃ v A F', e = .returned v ∧ Hid (dOf A = Lf.way row S) ∧ Hid (Side w0 w' (LiftT P [] (Lf.stop row (Lf.way row S)) F' :: listT v A :: dataT A :: ts)) := by
  obtain ⟨i0, hi, hz0, hz1, hz2⟩ := info_parts info_patch
  replace hi := Lib.hid hi
  replace hz0 := Lib.hid hz0
  replace hz1 := Lib.hid hz1
  replace hz2 := Lib.hid hz2
  have HL := Lib.hid hl
  have H0 : Hid (Side w0 w (LiftT P S row F :: listT (.slice none 0 0) [] :: dataT [] :: ts)) := by
    have h1 : Side w0 w (dataT [] :: LiftT P S row F :: ts) := h.add (Chg.refl _ _) (Pool.nil w) (fun k hk => by simp [dataT, poolT, rowsOf] at hk)
    have h2 : Side w0 w (listT (.slice none 0 0) [] :: dataT [] :: LiftT P S row F :: ts) := h1.add (Chg.refl _ _) (OwnW.nil 3 w 0 _) (fun k hk => by simp [listT, wideT, Value.ownBlock] at hk)
    exact h2.front 2
  have NX0 := Lib.hid (pnext (row := row) (S := S) H0.out hl rfl rfl)
  clear hl h H0
  go_enter Try.func14, Try.ntmps14
  go_wp2_with fail
  refine NX0.out.mono ?_
  rintro e w2 ⟨m, r, so, sn, sc, b, hd, rfl, HP, H1⟩
  clear NX0
  have H2 := Lib.hid (H1.out.add (b := blkT w2.heap.size 49 [.int .i64 m, .int .i64 r, .slice so sn sc]) ((Chg.refl _ _).alloc _) (Blk.made w2 _ _) (fun k hk => by rw [List.mem_singleton.1 hk]; exact Nat.le_refl _))
  go_wp2_with fail
  go_loopw [3, 4, 5] (fun o q ok wr => ∃ (A : List Pv) (m r : Int) (so : Option Addr) (sn sc : Nat) (b : Bool) (Q : Nat) (hd : List Thing), q = .pointer (some ⟨Q, 0, none⟩) ∧ ok = .bool b ∧ Hid (vlen o = A.length) ∧ Hid (PendH P row S A m r (.slice so sn sc) b hd) ∧ Hid (Side w0 wr (blkT Q 49 [.int .i64 m, .int .i64 r, .slice so sn sc] :: (hd ++ listT o A :: dataT A :: ts)))) (fun o _ _ _ => S.length - vlen o)
  case atStart => exact ⟨[], m, r, so, sn, sc, b, w2.heap.size, hd, rfl, rfl, rfl, HP, H2⟩
  case round =>
    clear HP H1 H2
    obtain ⟨A, m, r, so, sn, sc, b, Q, hd, rfl, rfl, VL, HP, H⟩ := hrel
    have HPo := HP.out
    rcases HPo with ⟨rfl, hA, F', rfl⟩ | ⟨rfl, d, e8, S', F', rfl, rfl, hway, hstop, hfew, rfl⟩
    · have hA' := Lib.hid hA
      clear hA
      obtain ⟨ao, ac, hav⟩ : ∃ ao ac, u3 = .slice ao A.length ac := by
        have := (show OwnW 3 wr 0 49 u3 (A.map pvSlot) from H.out.get 2 rfl).slice
        rw [List.length_map] at this
        exact this
      subst hav
      go_wp2_with fail
      go_ret
      exact ⟨_, A, F', rfl, hA', H.out.tail⟩
    · have hway' := Lib.hid hway
      have hstop' := Lib.hid hstop
      have hfew' := Lib.hid hfew
      have OA := Lib.hid (show OwnW 3 wr 0 49 u3 (A.map pvSlot) from H.out.get 3 rfl)
      obtain ⟨ao, ac, hav⟩ := OA.out.slice
      rw [List.length_map] at hav
      subst hav
      have LN : Hid (A.length < S.length) := by
        have h := congrArg List.length hway
        rw [List.length_append, List.length_cons, Lf.way_len, Lf.way_len] at h
        unfold dOf at h
        rw [List.length_map] at h
        show _ < _
        omega
      have q0 := (H.out.get 0 rfl : Blk _ _ _ _).cell (j := 0) rfl
      have q1 := (H.out.get 0 rfl : Blk _ _ _ _).cell (j := 1) rfl
      have q2 := (H.out.get 0 rfl : Blk _ _ _ _).cell (j := 2) rfl
      have OR : Hid (wr.ownsRow 0 49 3 (.slice ao A.length ac) A.length (A.map pvSlot).flatten) := by have := OA.out.2; rw [List.length_map] at this; exact this
      have B1 : Hid (A.length + 1 ≤ maxLen) := by have := HL.out; have := LN.out; show _ ≤ _; unfold maxLen; omega
      have B2 : Hid ((A.length + 1) * 40 ≤ 140737488355328) := by have := HL.out; have := LN.out; show _ ≤ _; omega
      have H3 : Hid (Side w0 wr (listT (.slice ao A.length ac) A :: ownT e8 (.slice so sn sc) (ub d.bs) :: dataT A :: blkT Q 49 [.int .i64 (d.m : Int), .int .i64 (d.r : Int), .slice so sn sc] :: LiftT P S' d.r F' :: ts)) := ((((H.out.front 3).front 4).front 3).front 2)
      clear hway hstop hfew OA H HP
      go_upto_region 6 with (at_builtin; refine wpList_append_three _ rfl (.tmp 17) (.tmp 19) 56 rfl 0 49 i0 (.agg #[.int .i64 0, .int .i64 0, .slice none 0 0]) 3 40 Try.underlying56 hi.out hz0.out hz1.out hz2.out rfl (by decide) _ A.length _ rfl (OR.out.alloc _) ⟨wr.heap.size, 0, none⟩ 1 1 [.int .i64 (d.m : Int), .int .i64 (d.r : Int), .slice so sn sc] rfl rfl (three_new _ _ _ _ _) (by simp [Value.oneCell']) B1.out B2.out (Nat.zero_le _) ?_; intro vn wn ol gr nb)
      have gr2 : World.grownBy _ wn (Value.slice ao A.length ac).ownBlock := gr.out
      have nb2 : vn.ownBlock = (Value.slice ao A.length ac).ownBlock ∨ _ := nb.out
      have CG : Hid (Chg (Value.slice ao A.length ac).ownBlock.toList wr wn) := (((Chg.refl [] _).alloc _).mono (by simp)).grown gr2 (fun k hk => .inl (by rw [hk]; simp))
      have H4 := Lib.hid (gather1 (d := d) H3.out CG.out rfl ol.out (nb_of nb2 (by simp)))
      have hvl : Hid (vlen vn = A.length + 1) := by obtain ⟨a, c, e⟩ := owns_slice ol.out; rw [e]; rfl
      clear gr nb gr2 nb2 CG H3 OR ol q0 q1 q2
      have q0 := (H4.out.get 2 rfl : Blk _ _ _ _).cell (j := 0) rfl
      have q1 := (H4.out.get 2 rfl : Blk _ _ _ _).cell (j := 1) rfl
      have q2 := (H4.out.get 2 rfl : Blk _ _ _ _).cell (j := 2) rfl
      have H5 := H4.out.add (b := blkT wn.heap.size 49 [.int .i64 (d.m : Int), .int .i64 (d.r : Int), .slice so sn sc]) ((Chg.refl _ _).alloc _) (Blk.made wn _ _) (fun k hk => by rw [List.mem_singleton.1 hk]; exact Nat.le_refl _)
      obtain ⟨Q2, hQ2⟩ : ∃ Q2, Q2 = wn.heap.size := ⟨_, rfl⟩
      rw [← hQ2] at H5
      have H6 := Lib.hid (((((H5.front 3).tail).front 2).front 2).front 3)
      replace hQ2 := Lib.hid hQ2
      clear H5 H4
      go_upto_region 4 with fail
      rw [← hQ2.out]
      generalize wn.alloc (.cells #[.int .i64 (d.m : Int), .int .i64 (d.r : Int), .slice so sn sc] 49) = W6 at *
      have NX := Lib.hid (pnext (row := row) (S := S) H6.out hfew'.out (by rw [← hway'.out]; unfold dOf; rw [List.map_append, List.append_assoc]; rfl) hstop'.out)
      clear q0 q1 q2
      go_wp2_with fail
      refine NX.out.mono ?_
      rintro e w7 ⟨m7, r7, so7, sn7, sc7, b7, hd7, rfl, HP7, H7⟩
      have H8 := H7.out.outOf
      have q0 := (H8.get 0 rfl : Blk _ _ _ _).cell (j := 0) rfl
      have q1 := (H8.get 0 rfl : Blk _ _ _ _).cell (j := 1) rfl
      have q2 := (H8.get 0 rfl : Blk _ _ _ _).cell (j := 2) rfl
      have f0 := (H8.get 0 rfl : Blk _ _ _ _).free 0
      have f1 := (H8.get 0 rfl : Blk _ _ _ _).free 1
      have f2 := (H8.get 0 rfl : Blk _ _ _ _).free 2
      have H9 := Lib.hid (H8.turn (b := blkT Q2 49 [.int .i64 m7, .int .i64 r7, .slice so7 sn7 sc7]) ((((Chg.refl [Q2] w7).setCell (p := ⟨Q2, 0, none⟩) (.inl (by simp)) (.int .i64 m7)).setCell (p := ⟨Q2, 1, none⟩) (.inl (by simp)) (.int .i64 r7)).setCell (p := ⟨Q2, 2, none⟩) (.inl (by simp)) (.slice so7 sn7 sc7)) (fun k hk => .inl hk) ((((H8.get 0 rfl : Blk _ _ _ _).set 0 _).set 1 _).set 2 _) (fun k hk => .inl hk))
      clear H8 H7 H6 NX
      go_wp2_with fail
      refine ⟨⟨A ++ [(d, .slice so sn sc)], m7, r7, so7, sn7, sc7, b7, Q2, hd7, rfl, rfl, ?_, HP7, H9⟩, ?_⟩
      · show _ = _
        rw [hvl.out, List.length_append]
        rfl
      · have := LN.out
        have := hvl.out
        show S.length - vlen vn < S.length - A.length
        omega

noncomputable def lift_cons : LiftCons where
  T := LiftT
  new_ok := fun row hr w0 w ts h => lnew_ok row hr w0 w ts h
  new_no := fun row h w => lnew_no row h w
  put_ok := fun w0 w ts P row S F d dv hm hr hl hsl hby hoff hS hf h => by
    refine (lput_ok w P row S F d dv ⟨hm, hr, hl, hby⟩ hsl hoff hf (h.get 0 rfl)).mono ?_
    rintro e w' ⟨rfl, TU⟩
    obtain ⟨F', h'⟩ := h.act 0 rfl TU.out
    exact ⟨rfl, F', h'⟩
  put_no := fun w0 w ts P row S F m r ao n c er hr h => lput_no w P m r ao n c er hr
  next := fun w0 w ts P row S F hS hf h => lnext_any w0 w ts P row S F hf h
  all := fun w0 w ts P row S F hS hf h => lall_any w0 w ts P row S F hf h
  len := fun w P row S F h hf => by
    refine (llen_any w P row S F h).mono ?_
    rintro e w' ⟨rfl, rfl⟩
    exact ⟨rfl, 0, rfl⟩
  row := fun w P row S F h => by
    refine (lrow_any w P row S F h).mono ?_
    rintro e w' ⟨rfl, rfl⟩
    exact ⟨rfl, 0, rfl⟩

end Go.Proofs.Ytihmegpcbpdipaa
