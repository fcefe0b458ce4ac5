/-
  The program's Next. By an AI agent.
-/
import Derived.Test.YtihmegpcbpdipaaLfPut
namespace Go.Proofs.Ytihmegpcbpdipaa
open Go.RowKit Go.Maps

/-- What Next comes to. -/
def LNexts (w0 : World) (ts : List Thing) (P row : Nat) (S : List Pd) (e : Ending) (w' : World) : Prop :=
  (S = [] ∧ e = .returned (.tuple #[.agg #[.int .i64 0, .int .i64 0, .slice none 0 0], .bool false]) ∧ ∃ F', Hid (Side w0 w' (LiftT P [] row F' :: ts))) ∨
  ∃ (d : Pd) (v : Value) (e8 : TypeId) (F' : List Nat), Lf.way row S = d :: Lf.way d.r (Lf.out d S) ∧ d ∈ S ∧ e = .returned (.tuple #[.agg #[.int .i64 (d.m : Int), .int .i64 (d.r : Int), v], .bool true]) ∧ Hid (Side w0 w' (ownT e8 v (ub d.bs) :: LiftT P (Lf.out d S) d.r F' :: ts))

set_option maxHeartbeats 4000000 in
set_option maxRecDepth 100000 in
theorem lnext_any (w0 w : World) (ts : List Thing) (P row : Nat) (S : List Pd) (F : List Nat) (hf : S.length ≤ 100000) (H : Side w0 w (LiftT P S row F :: ts)) :
    Calls Try.prog 10 #[.pointer (some ⟨P, 0, none⟩)] w (LNexts w0 ts P row S) := by
  obtain ⟨R, hR⟩ : ∃ R, R = w.heap.size := ⟨_, rfl⟩
  have LR : LRep P S row F w := H.get 0 rfl
  have LN := Lib.hid (fun w' (c : Chg [] w w') => llen_any w' P row S F ((LiftT P S row F).stays w w' [] LR c (fun _ _ => by simp)))
  have H1 := H.add (b := blkT w.heap.size 49 [.int .i64 0, .int .i64 0, .slice none 0 0]) ((Chg.refl _ _).alloc _) (Blk.made w _ _) (fun k hk => by rw [List.mem_singleton.1 hk]; exact Nat.le_refl _)
  have C1 : Hid (Chg [] w (w.alloc (.cells #[.int .i64 0, .int .i64 0, .slice none 0 0] 49))) := (Chg.refl _ _).alloc _
  rw [← hR] at H1
  replace H1 := Lib.hid (H1.front 1)
  replace hR := Lib.hid hR
  replace hf := Lib.hid hf
  clear H LR
  by_cases hS : S = []
  · subst hS
    go_enter Try.func10, Try.ntmps10
    go_upto_region 1 with fail
    rw [← hR.out]
    generalize w.alloc (.cells #[.int .i64 0, .int .i64 0, .slice none 0 0] 49) = W1 at *
    have r0 := (H1.out.get 1 rfl : Blk _ _ _ _).cell (j := 0) rfl
    have r1 := (H1.out.get 1 rfl : Blk _ _ _ _).cell (j := 1) rfl
    have r2 := (H1.out.get 1 rfl : Blk _ _ _ _).cell (j := 2) rfl
    have f0 := (H1.out.get 1 rfl : Blk _ _ _ _).free 0
    have f1 := (H1.out.get 1 rfl : Blk _ _ _ _).free 1
    have f2 := (H1.out.get 1 rfl : Blk _ _ _ _).free 2
    have BR : Hid (Blk (((W1.setCell ⟨R, 0, none⟩ (.int .i64 0)).setCell ⟨R, 1, none⟩ (.int .i64 0)).setCell ⟨R, 2, none⟩ (.slice none 0 0)) R 49 [.int .i64 0, .int .i64 0, .slice none 0 0]) := (((H1.out.get 1 rfl : Blk _ _ _ _).set 0 _).set 1 _).set 2 _
    have H2 := Lib.hid (H1.out.turnAt 1 rfl (b := blkT R 49 [.int .i64 0, .int .i64 0, .slice none 0 0]) ((((Chg.refl [R] W1).setCell (p := ⟨R, 0, none⟩) (.inl (by simp)) (.int .i64 0)).setCell (p := ⟨R, 1, none⟩) (.inl (by simp)) (.int .i64 0)).setCell (p := ⟨R, 2, none⟩) (.inl (by simp)) (.slice none 0 0)) (fun k hk => .inl hk) BR.out (fun k hk => .inl hk))
    clear H1
    go_wp2_with fail
    refine (LN.out _ C1.out).mono ?_
    rintro e w2 ⟨rfl, rfl⟩
    go_wp2_with fail
    refine bodyPost_ret (results_pair rfl _ _ R _ _ _ _ rfl BR.out Try.underlying49 size_patch) rfl ?_
    exact .inl ⟨rfl, rfl, F, H2.out.sub (List.Sublist.cons_cons _ (List.sublist_cons_self _ _))⟩
  · have hS' := Lib.hid hS
    have e0 : ((S.length : Int) == 0) = false := by
      have : S.length ≠ 0 := fun e => hS (List.eq_nil_of_length_eq_zero e)
      simp
      exact hS
    clear hS
    obtain ⟨va, vb, mb, A, B, hI, H2⟩ := H1.out.unpack
    have hI' := Lib.hid hI
    have H2' := Lib.hid H2
    obtain ⟨ao, ac, rfl⟩ := plT_slice (H2.get 1 rfl : (plT va A).P _)
    obtain ⟨bo, bc, rfl⟩ := plT_slice (H2.get 2 rfl : (plT vb B).P _)
    have QL := Lib.hid (fun w' => qlen_any w' ao A.length ac)
    clear hI H2 H1
    go_enter Try.func10, Try.ntmps10
    go_upto_region 1 with fail
    rw [← hR.out]
    generalize w.alloc (.cells #[.int .i64 0, .int .i64 0, .slice none 0 0] 49) = W1 at *
    have p1 := (H2'.out.get 0 rfl : Blk _ _ _ _).cell (j := 1) rfl
    go_wp2_with fail
    refine (LN.out _ C1.out).mono ?_
    rintro e w2 ⟨rfl, rfl⟩
    by_cases hA : A = []
    · subst hA
      rw [List.length_nil] at H2' QL p1
      have neB := Lib.hid (hI'.out.someB hS'.out)
      have nxt := Lib.hid (fun Rl => hI'.out.next2 (R := Rl) hS'.out)
      go_wp2_with fail
      refine (QL.out _).mono ?_
      rintro e w3 ⟨rfl, rfl⟩
      go_upto_region 4 with fail
      have p2 := (H2'.out.get 0 rfl : Blk _ _ _ _).cell (j := 2) rfl
      have g1 := (H2'.out.get 0 rfl : Blk _ _ _ _).free 1
      have g2 := (H2'.out.get 0 rfl : Blk _ _ _ _).free 2
      have H3 := Lib.hid (((H2'.out.turnAt 0 rfl (b := lbT P (lcells row (.slice bo B.length bc) (.slice ao 0 ac) mb)) (s := [P]) ((((Chg.refl [P] w3).setCell (p := ⟨P, 1, none⟩) (.inl (by simp)) (.slice bo B.length bc)).setCell (p := ⟨P, 2, none⟩) (.inl (by simp)) (.slice ao 0 ac)).drew) (fun k hk => .inl hk) ((((H2'.out.get 0 rfl : Blk _ _ _ _).set 1 (.slice bo B.length bc)).set 2 (.slice ao 0 ac)).drew) (fun k hk => .inl hk)).front 2).front 1)
      go_region
      all_goals
        generalize ((w3.setCell ⟨P, 1, none⟩ (.slice bo B.length bc)).setCell ⟨P, 2, none⟩ (.slice ao 0 ac)).drew = w4 at *
        clear H2' p2 g1 g2
        have NX : Hid (∀ Rl, Hq.Left B Rl → ∃ d ∈ S, pl d = Hq.nth B 0 ∧ Lf.way row S = d :: Lf.way d.r (Lf.out d S) ∧ Inv d.r (Lf.out d S) Rl []) := fun Rl hl => nxt.out Rl hl
        have TK := Lib.hid (take_any w0 _ _ P 1 _ (lcells row (.slice bo B.length bc) (.slice ao 0 ac) mb) B H3.out rfl neB.out (Nat.le_trans hI'.out.lenB hf.out) hI'.out.hb)
        clear p1
        go_wp2_with fail
        refine TK.out.mono ?_
        rintro e w5 ⟨rfl, v5, Rl, HL5, H5⟩
        obtain ⟨d, hd, hpd, hway, hI5⟩ := NX.out Rl HL5.out
        rw [← hpd]
        replace hd := Lib.hid hd
        replace hway := Lib.hid hway
        replace hI5 := Lib.hid hI5
        rw [show plVal (pl d) = .agg #[.int .i64 (d.r : Int), .int .i64 (d.m : Int)] from rfl]
        clear hpd TK NX HL5
        obtain ⟨Z, hZ⟩ : ∃ Z, Z = w5.heap.size := ⟨_, rfl⟩
        have H6 := H5.out.add (b := blkT w5.heap.size 78 [.int .i64 (d.r : Int), .int .i64 (d.m : Int)]) ((Chg.refl _ _).alloc _) (Blk.made w5 _ _) (fun k hk => by rw [List.mem_singleton.1 hk]; exact Nat.le_refl _)
        rw [← hZ] at H6
        replace H6 := Lib.hid H6
        go_upto_region 6 with fail
        rw [← hZ]
        generalize w5.alloc (.cells #[.int .i64 (d.r : Int), .int .i64 (d.m : Int)] 78) = W6 at *
        clear H5 hZ
        have z0 := (H6.out.get 0 rfl : Blk _ _ _ _).cell (j := 0) rfl
        have q0 := (H6.out.get 1 rfl : Blk _ _ _ _).cell (j := 0) rfl
        have qf := (H6.out.get 1 rfl : Blk _ _ _ _).free 0
        have H7 := Lib.hid (H6.out.turnAt 1 rfl (b := lbT P (lcells d.r v5 (.slice ao 0 ac) mb)) (s := [P]) ((Chg.refl [P] W6).setCell (p := ⟨P, 0, none⟩) (.inl (by simp)) (.int .i64 (d.r : Int))) (fun k hk => .inl hk) ((H6.out.get 1 rfl : Blk _ _ _ _).set 0 (.int .i64 (d.r : Int))) (fun k hk => .inl hk))
        clear H6
        go_upto_region 7 with fail
        generalize W6.setCell ⟨P, 0, none⟩ (.int .i64 (d.r : Int)) = W7 at *
        have z0 := (H7.out.get 0 rfl : Blk _ _ _ _).cell (j := 0) rfl
        have z1 := (H7.out.get 0 rfl : Blk _ _ _ _).cell (j := 1) rfl
        have RM := Lib.hid (rem_any w0 W7 _ P d.r mb v5 (.slice ao 0 ac) S d (((H7.out.front 4).front 2)) hI'.out.srt hI'.out.ok hd.out)
        clear q0 qf
        go_wp2_with fail
        refine RM.out.mono ?_
        rintro e w8 ⟨g, rfl, H8⟩
        have BR0 : Blk w8 R 49 [.int .i64 0, .int .i64 0, .slice none 0 0] := H8.out.get 6 rfl
        have r0 := BR0.cell (j := 0) rfl
        have r1 := BR0.cell (j := 1) rfl
        have r2 := BR0.cell (j := 2) rfl
        have f0 := BR0.free 0
        have f1 := BR0.free 1
        have f2 := BR0.free 2
        have BR : Hid (Blk (((w8.setCell ⟨R, 0, none⟩ (.int .i64 (d.m : Int))).setCell ⟨R, 1, none⟩ (.int .i64 (d.r : Int))).setCell ⟨R, 2, none⟩ (.slice (some ⟨g, 0, none⟩) 128 128)) R 49 [.int .i64 (d.m : Int), .int .i64 (d.r : Int), .slice (some ⟨g, 0, none⟩) 128 128]) := ((BR0.set 0 _).set 1 _).set 2 _
        have H9 := Lib.hid (H8.out.turnAt 6 rfl (b := blkT R 49 [.int .i64 (d.m : Int), .int .i64 (d.r : Int), .slice (some ⟨g, 0, none⟩) 128 128]) ((((Chg.refl [R] w8).setCell (p := ⟨R, 0, none⟩) (.inl (by simp)) (.int .i64 (d.m : Int))).setCell (p := ⟨R, 1, none⟩) (.inl (by simp)) (.int .i64 (d.r : Int))).setCell (p := ⟨R, 2, none⟩) (.inl (by simp)) (.slice (some ⟨g, 0, none⟩) 128 128)) (fun k hk => .inl hk) BR.out (fun k hk => .inl hk))
        clear BR0 H8 RM H7 z0 z1
        go_wp2_with fail
        refine bodyPost_ret (results_pair rfl _ _ R _ _ _ _ rfl BR.out Try.underlying49 size_patch) rfl ?_
        have HX := ((((H9.out.sub (List.Sublist.cons_cons _ (List.Sublist.cons_cons _ (List.Sublist.cons_cons _ (List.Sublist.cons _ (List.Sublist.cons_cons _ (List.Sublist.cons_cons _ (List.sublist_cons_self _ _)))))))).front 2).front 4).front 4).front 4
        obtain ⟨F', HF⟩ := Side.pack hI5.out HX
        exact .inr ⟨d, _, _, F', hway.out, hd.out, rfl, HF.front 1⟩
    · have eA : ((A.length : Int) == 0) = false := by
        simp
        exact hA
      have hA' := Lib.hid hA
      clear hA
      go_wp2_with fail
      refine (QL.out _).mono ?_
      rintro e w3 ⟨rfl, rfl⟩
      have NX : Hid (∀ Rl, Hq.Left A Rl → ∃ d ∈ S, pl d = Hq.nth A 0 ∧ Lf.way row S = d :: Lf.way d.r (Lf.out d S) ∧ Inv d.r (Lf.out d S) Rl B) := fun Rl hl => hI'.out.next1 hA'.out hl
      have TK := Lib.hid (take_any w0 _ _ P 1 _ (lcells row (.slice ao A.length ac) (.slice bo B.length bc) mb) A H2'.out rfl hA'.out (Nat.le_trans hI'.out.lenA hf.out) hI'.out.ha)
      clear p1
      go_wp2_with fail
      refine TK.out.mono ?_
      rintro e w5 ⟨rfl, v5, Rl, HL5, H5⟩
      obtain ⟨d, hd, hpd, hway, hI5⟩ := NX.out Rl HL5.out
      rw [← hpd]
      replace hd := Lib.hid hd
      replace hway := Lib.hid hway
      replace hI5 := Lib.hid hI5
      rw [show plVal (pl d) = .agg #[.int .i64 (d.r : Int), .int .i64 (d.m : Int)] from rfl]
      clear hpd TK NX HL5
      obtain ⟨Z, hZ⟩ : ∃ Z, Z = w5.heap.size := ⟨_, rfl⟩
      have H6 := H5.out.add (b := blkT w5.heap.size 78 [.int .i64 (d.r : Int), .int .i64 (d.m : Int)]) ((Chg.refl _ _).alloc _) (Blk.made w5 _ _) (fun k hk => by rw [List.mem_singleton.1 hk]; exact Nat.le_refl _)
      rw [← hZ] at H6
      replace H6 := Lib.hid H6
      go_upto_region 6 with fail
      rw [← hZ]
      generalize w5.alloc (.cells #[.int .i64 (d.r : Int), .int .i64 (d.m : Int)] 78) = W6 at *
      clear H5 hZ
      have z0 := (H6.out.get 0 rfl : Blk _ _ _ _).cell (j := 0) rfl
      have q0 := (H6.out.get 1 rfl : Blk _ _ _ _).cell (j := 0) rfl
      have qf := (H6.out.get 1 rfl : Blk _ _ _ _).free 0
      have H7 := Lib.hid (H6.out.turnAt 1 rfl (b := lbT P (lcells d.r v5 (.slice bo B.length bc) mb)) (s := [P]) ((Chg.refl [P] W6).setCell (p := ⟨P, 0, none⟩) (.inl (by simp)) (.int .i64 (d.r : Int))) (fun k hk => .inl hk) ((H6.out.get 1 rfl : Blk _ _ _ _).set 0 (.int .i64 (d.r : Int))) (fun k hk => .inl hk))
      clear H6
      go_upto_region 7 with fail
      generalize W6.setCell ⟨P, 0, none⟩ (.int .i64 (d.r : Int)) = W7 at *
      have z0 := (H7.out.get 0 rfl : Blk _ _ _ _).cell (j := 0) rfl
      have z1 := (H7.out.get 0 rfl : Blk _ _ _ _).cell (j := 1) rfl
      have RM := Lib.hid (rem_any w0 W7 _ P d.r mb v5 (.slice bo B.length bc) S d (((H7.out.front 4).front 2)) hI'.out.srt hI'.out.ok hd.out)
      clear q0 qf
      go_wp2_with fail
      refine RM.out.mono ?_
      rintro e w8 ⟨g, rfl, H8⟩
      have BR0 : Blk w8 R 49 [.int .i64 0, .int .i64 0, .slice none 0 0] := H8.out.get 6 rfl
      have r0 := BR0.cell (j := 0) rfl
      have r1 := BR0.cell (j := 1) rfl
      have r2 := BR0.cell (j := 2) rfl
      have f0 := BR0.free 0
      have f1 := BR0.free 1
      have f2 := BR0.free 2
      have BR : Hid (Blk (((w8.setCell ⟨R, 0, none⟩ (.int .i64 (d.m : Int))).setCell ⟨R, 1, none⟩ (.int .i64 (d.r : Int))).setCell ⟨R, 2, none⟩ (.slice (some ⟨g, 0, none⟩) 128 128)) R 49 [.int .i64 (d.m : Int), .int .i64 (d.r : Int), .slice (some ⟨g, 0, none⟩) 128 128]) := ((BR0.set 0 _).set 1 _).set 2 _
      have H9 := Lib.hid (H8.out.turnAt 6 rfl (b := blkT R 49 [.int .i64 (d.m : Int), .int .i64 (d.r : Int), .slice (some ⟨g, 0, none⟩) 128 128]) ((((Chg.refl [R] w8).setCell (p := ⟨R, 0, none⟩) (.inl (by simp)) (.int .i64 (d.m : Int))).setCell (p := ⟨R, 1, none⟩) (.inl (by simp)) (.int .i64 (d.r : Int))).setCell (p := ⟨R, 2, none⟩) (.inl (by simp)) (.slice (some ⟨g, 0, none⟩) 128 128)) (fun k hk => .inl hk) BR.out (fun k hk => .inl hk))
      clear BR0 H8 RM H7 z0 z1
      go_wp2_with fail
      refine bodyPost_ret (results_pair rfl _ _ R _ _ _ _ rfl BR.out Try.underlying49 size_patch) rfl ?_
      have HX := ((((H9.out.sub (List.Sublist.cons_cons _ (List.Sublist.cons_cons _ (List.Sublist.cons_cons _ (List.Sublist.cons _ (List.Sublist.cons_cons _ (List.Sublist.cons_cons _ (List.sublist_cons_self _ _)))))))).front 2).front 4).front 4).front 4
      obtain ⟨F', HF⟩ := Side.pack hI5.out HX
      exact .inr ⟨d, _, _, F', hway.out, hd.out, rfl, HF.front 1⟩

end Go.Proofs.Ytihmegpcbpdipaa
