/-
  The three Decodes, and Kind, of any bytes. By an AI agent. Printed by gen_rclawr.py.
-/
import Derived.Test.YtnjemjkjbeingaaRcDDecH
import Derived.Test.YtnjemjkjbeingaaRcKnown
import Derived.Test.YtnjemjkjbeingaaGLent
namespace Go.Proofs.Ytnjemjkjbeingaa
open Go.RowKit Crc

theorem wholeR_any (g : Nat) (v : Value) (xs : List Int) (w : World) (hb : Blk w g 5 ((xs ++ [91, 92]).map (Value.int .u8))) (h : Sl w v xs) (hbig : xs.length ≤ 140737488355328) :
    Calls Try.prog 24 #[.slice (some ⟨g, 0, none⟩) xs.length (xs.length + 2), v] w fun e w' => e = .returned (.bool true) ∧ Hid (Chg [] w w') := by
  refine (whole_any g v xs w hb h hbig).mono ?_
  rintro e w' ⟨rfl, q, rfl⟩
  exact ⟨rfl, (Chg.refl _ _).drewN q⟩

set_option maxHeartbeats 16000000 in
set_option maxRecDepth 100000 in
theorem recordReads_core (v : Value) (b : List Nat) (w : World) (s : Sl w v (ints b)) (hbs : Bs b) (hcap : ∀ ao n c, v = .slice ao n c → n ≤ c) :
    Calls Try.prog 4 #[v] w fun e w' => e = .returned (.bool true) ∧ Hid (Chg [] w w') := by
  by_cases hbig : b.length ≤ 100000
  case neg =>
    obtain ⟨ao, c, rfl⟩ := s.slice
    rw [ints_length]
    have h2 : (100000 : Int) < b.length := by omega
    clear s hcap
    go_enter Try.func4, Try.ntmps4
    go_wp2_with fail
    go_ret
    exact ⟨rfl, Chg.refl _ _⟩
  have hbig2 : ¬ (100000 : Int) < b.length := by omega
  have KN := Lib.hid known_any
  have LE := Lib.hid (lent_any v (ints b) w s (by rw [ints_length]; omega))
  have cap2 : ∀ g ao n c, Value.slice (some ⟨g, 0, none⟩) (ints b).length ((ints b).length + 2) = .slice ao n c → n ≤ c := fun g ao n c he => by
    obtain ⟨_, rfl, rfl⟩ : _ ∧ (ints b).length = n ∧ (ints b).length + 2 = c := by simpa using he
    omega
  have Dh := Lib.hid (fun g W (B : Blk W g 5 ((ints b ++ [91, 92]).map (Value.int .u8))) => decHd_any (.slice (some ⟨g, 0, none⟩) (ints b).length ((ints b).length + 2)) b W (Blk.sl B) hbs (cap2 g))
  have Rh := Lib.hid (fun W (C : Chg [] w W) => rdecHd_any v b W (s.chg C (by simp)) hbs (by omega) hcap)
  have Ih := Hd.derr_in b
  have Dc := Lib.hid (fun g W (B : Blk W g 5 ((ints b ++ [91, 92]).map (Value.int .u8))) => decCm_any (.slice (some ⟨g, 0, none⟩) (ints b).length ((ints b).length + 2)) b W (Blk.sl B) hbs (cap2 g))
  have Rc := Lib.hid (fun W (C : Chg [] w W) => rdecCm_any v b W (s.chg C (by simp)) hbs (by omega) hcap)
  have Ic := Cm.derr_in b
  have Dk := Lib.hid (fun g W (B : Blk W g 5 ((ints b ++ [91, 92]).map (Value.int .u8))) => decCk_any (.slice (some ⟨g, 0, none⟩) (ints b).length ((ints b).length + 2)) b W (Blk.sl B) hbs (cap2 g))
  have Rk := Lib.hid (fun W (C : Chg [] w W) => rdecCk_any v b W (s.chg C (by simp)) hbs (by omega) hcap)
  have Ik := Ck.derr_in b
  have KI := Lib.hid (fun g W (B : Blk W g 5 ((ints b ++ [91, 92]).map (Value.int .u8))) => kind_any (.slice (some ⟨g, 0, none⟩) (ints b).length ((ints b).length + 2)) b W (Blk.sl B) hbs (cap2 g))
  have KR := Lib.hid (fun W (C : Chg [] w W) => rkind_any v b W (s.chg C (by simp)) hbs hcap)
  have WH := Lib.hid (fun g W (B : Blk W g 5 ((ints b ++ [91, 92]).map (Value.int .u8))) (C : Chg [] w W) => wholeR_any g v (ints b) W B (s.chg C (by simp)) (by rw [ints_length]; omega))
  have hkl := kindOf_le b
  generalize Hd.dval b = h at *
  generalize Hd.derr b = eh at *
  have Qh := Lib.hid (fun W => eql_header_same h.ep h.sq h.ix h.ct h.mb h.rw' h.sm h.esc W)
  generalize Cm.dval b = c at *
  generalize Cm.derr b = ec at *
  have Qc := Lib.hid (fun W => eql_commit_same c.ep c.sq c.ct c.sm W)
  generalize Ck.dval b = k at *
  generalize Ck.derr b = ek at *
  have Qk := Lib.hid (fun W => eql_check_same k.ep k.sq k.tl W)
  unfold Hd.val at Dh Rh
  unfold Cm.val at Dc Rc
  unfold Ck.val at Dk Rk
  generalize kindOf b = kd at *
  rw [ints_length] at Dh Dc Dk KI WH
  obtain ⟨ao, c0, rfl⟩ := s.slice
  rw [ints_length] at Rh Rc Rk KR WH LE ⊢
  unfold LentBy at LE
  rw [ints_length] at LE
  clear s hbs hcap cap2
  go_enter Try.func4, Try.ntmps4
  go_wp2_with fail
  refine LE.out.mono ?_
  rintro e w1 ⟨g, rfl, G, C, hg⟩
  have M : Hid (Chg [] w w1) := C
  replace G := Lib.hid G
  clear C LE hg
  go_wp2_with fail
  refine (Dh.out g w1 G.out).mono ?_
  rintro e w2 ⟨rfl, C⟩
  replace M := Lib.hid (M.out.trans C.out)
  replace G := Lib.hid (G.out.chg C.out (by simp))
  clear C Dh
  go_upto_region 5 with fail
  refine wp_named2 (fun w3 hw => ?_)
  have C : Hid (Chg [] w2 w3) := by show Chg _ _ _; rw [hw]; exact (Chg.refl _ _).alloc _
  have B1 : Hid (Blk w3 w2.heap.size 25 [.int .u64 (h.ep : Int), .int .u64 (h.sq : Int), .int .i64 h.ix, .int .i64 h.ct, .int .i64 h.mb, .int .i64 h.rw', .bool h.esc, .int .u32 (h.sm : Int)]) := by show Blk _ _ _ _; rw [hw]; exact Blk.made w2 [.int .u64 (h.ep : Int), .int .u64 (h.sq : Int), .int .i64 h.ix, .int .i64 h.ct, .int .i64 h.mb, .int .i64 h.rw', .bool h.esc, .int .u32 (h.sm : Int)] _
  replace M := Lib.hid (M.out.trans C.out)
  replace G := Lib.hid (G.out.chg C.out (by simp))
  clear hw C
  go_wp2_with fail
  refine (Dc.out g w3 G.out).mono ?_
  rintro e w4 ⟨rfl, C⟩
  replace M := Lib.hid (M.out.trans C.out)
  replace G := Lib.hid (G.out.chg C.out (by simp))
  replace B1 := Lib.hid (B1.out.chg C.out (by simp))
  clear C Dc
  go_upto_region 6 with fail
  refine wp_named2 (fun w5 hw => ?_)
  have C : Hid (Chg [] w4 w5) := by show Chg _ _ _; rw [hw]; exact (Chg.refl _ _).alloc _
  have B2 : Hid (Blk w5 w4.heap.size 27 [.int .u64 (c.ep : Int), .int .u64 (c.sq : Int), .int .i64 c.ct, .int .u32 (c.sm : Int)]) := by show Blk _ _ _ _; rw [hw]; exact Blk.made w4 [.int .u64 (c.ep : Int), .int .u64 (c.sq : Int), .int .i64 c.ct, .int .u32 (c.sm : Int)] _
  replace M := Lib.hid (M.out.trans C.out)
  replace G := Lib.hid (G.out.chg C.out (by simp))
  replace B1 := Lib.hid (B1.out.chg C.out (by simp))
  clear hw C
  go_wp2_with fail
  refine (Dk.out g w5 G.out).mono ?_
  rintro e w6 ⟨rfl, C⟩
  replace M := Lib.hid (M.out.trans C.out)
  replace G := Lib.hid (G.out.chg C.out (by simp))
  replace B1 := Lib.hid (B1.out.chg C.out (by simp))
  replace B2 := Lib.hid (B2.out.chg C.out (by simp))
  clear C Dk
  go_upto_region 7 with fail
  refine wp_named2 (fun w7 hw => ?_)
  have C : Hid (Chg [] w6 w7) := by show Chg _ _ _; rw [hw]; exact (Chg.refl _ _).alloc _
  have B3 : Hid (Blk w7 w6.heap.size 29 [.int .u64 (k.ep : Int), .int .u64 (k.sq : Int), .int .i64 k.tl]) := by show Blk _ _ _ _; rw [hw]; exact Blk.made w6 [.int .u64 (k.ep : Int), .int .u64 (k.sq : Int), .int .i64 k.tl] _
  replace M := Lib.hid (M.out.trans C.out)
  replace G := Lib.hid (G.out.chg C.out (by simp))
  replace B1 := Lib.hid (B1.out.chg C.out (by simp))
  replace B2 := Lib.hid (B2.out.chg C.out (by simp))
  clear hw C
  go_wp2_with fail
  refine (KI.out g w7 G.out).mono ?_
  rintro e wx ⟨rfl, rfl⟩
  clear KI
  go_wp2_with fail
  refine (WH.out g w7 G.out M.out).mono ?_
  rintro e w8 ⟨rfl, C⟩
  replace M := Lib.hid (M.out.trans C.out)
  replace G := Lib.hid (G.out.chg C.out (by simp))
  replace B1 := Lib.hid (B1.out.chg C.out (by simp))
  replace B2 := Lib.hid (B2.out.chg C.out (by simp))
  replace B3 := Lib.hid (B3.out.chg C.out (by simp))
  clear C WH
  go_wp2_with fail
  refine (Rh.out w8 M.out).mono ?_
  rintro e w9 ⟨rfl, C⟩
  replace M := Lib.hid (M.out.trans C.out)
  replace G := Lib.hid (G.out.chg C.out (by simp))
  replace B1 := Lib.hid (B1.out.chg C.out (by simp))
  replace B2 := Lib.hid (B2.out.chg C.out (by simp))
  replace B3 := Lib.hid (B3.out.chg C.out (by simp))
  clear C Rh
  go_upto_region 10 with fail
  refine wp_named2 (fun w10 hw => ?_)
  have C : Hid (Chg [] w9 w10) := by show Chg _ _ _; rw [hw]; exact (Chg.refl _ _).alloc _
  have B4 : Hid (Blk w10 w9.heap.size 25 [.int .u64 (h.ep : Int), .int .u64 (h.sq : Int), .int .i64 h.ix, .int .i64 h.ct, .int .i64 h.mb, .int .i64 h.rw', .bool h.esc, .int .u32 (h.sm : Int)]) := by show Blk _ _ _ _; rw [hw]; exact Blk.made w9 [.int .u64 (h.ep : Int), .int .u64 (h.sq : Int), .int .i64 h.ix, .int .i64 h.ct, .int .i64 h.mb, .int .i64 h.rw', .bool h.esc, .int .u32 (h.sm : Int)] _
  replace M := Lib.hid (M.out.trans C.out)
  replace G := Lib.hid (G.out.chg C.out (by simp))
  replace B1 := Lib.hid (B1.out.chg C.out (by simp))
  replace B2 := Lib.hid (B2.out.chg C.out (by simp))
  replace B3 := Lib.hid (B3.out.chg C.out (by simp))
  clear hw C
  go_wp2_with fail
  refine (Rc.out w10 M.out).mono ?_
  rintro e w11 ⟨rfl, C⟩
  replace M := Lib.hid (M.out.trans C.out)
  replace G := Lib.hid (G.out.chg C.out (by simp))
  replace B1 := Lib.hid (B1.out.chg C.out (by simp))
  replace B2 := Lib.hid (B2.out.chg C.out (by simp))
  replace B3 := Lib.hid (B3.out.chg C.out (by simp))
  replace B4 := Lib.hid (B4.out.chg C.out (by simp))
  clear C Rc
  go_upto_region 11 with fail
  refine wp_named2 (fun w12 hw => ?_)
  have C : Hid (Chg [] w11 w12) := by show Chg _ _ _; rw [hw]; exact (Chg.refl _ _).alloc _
  have B5 : Hid (Blk w12 w11.heap.size 27 [.int .u64 (c.ep : Int), .int .u64 (c.sq : Int), .int .i64 c.ct, .int .u32 (c.sm : Int)]) := by show Blk _ _ _ _; rw [hw]; exact Blk.made w11 [.int .u64 (c.ep : Int), .int .u64 (c.sq : Int), .int .i64 c.ct, .int .u32 (c.sm : Int)] _
  replace M := Lib.hid (M.out.trans C.out)
  replace G := Lib.hid (G.out.chg C.out (by simp))
  replace B1 := Lib.hid (B1.out.chg C.out (by simp))
  replace B2 := Lib.hid (B2.out.chg C.out (by simp))
  replace B3 := Lib.hid (B3.out.chg C.out (by simp))
  replace B4 := Lib.hid (B4.out.chg C.out (by simp))
  clear hw C
  go_wp2_with fail
  refine (Rk.out w12 M.out).mono ?_
  rintro e w13 ⟨rfl, C⟩
  replace M := Lib.hid (M.out.trans C.out)
  replace G := Lib.hid (G.out.chg C.out (by simp))
  replace B1 := Lib.hid (B1.out.chg C.out (by simp))
  replace B2 := Lib.hid (B2.out.chg C.out (by simp))
  replace B3 := Lib.hid (B3.out.chg C.out (by simp))
  replace B4 := Lib.hid (B4.out.chg C.out (by simp))
  replace B5 := Lib.hid (B5.out.chg C.out (by simp))
  clear C Rk
  go_upto_region 12 with fail
  refine wp_named2 (fun w14 hw => ?_)
  have C : Hid (Chg [] w13 w14) := by show Chg _ _ _; rw [hw]; exact (Chg.refl _ _).alloc _
  have B6 : Hid (Blk w14 w13.heap.size 29 [.int .u64 (k.ep : Int), .int .u64 (k.sq : Int), .int .i64 k.tl]) := by show Blk _ _ _ _; rw [hw]; exact Blk.made w13 [.int .u64 (k.ep : Int), .int .u64 (k.sq : Int), .int .i64 k.tl] _
  replace M := Lib.hid (M.out.trans C.out)
  replace G := Lib.hid (G.out.chg C.out (by simp))
  replace B1 := Lib.hid (B1.out.chg C.out (by simp))
  replace B2 := Lib.hid (B2.out.chg C.out (by simp))
  replace B3 := Lib.hid (B3.out.chg C.out (by simp))
  replace B4 := Lib.hid (B4.out.chg C.out (by simp))
  replace B5 := Lib.hid (B5.out.chg C.out (by simp))
  clear hw C
  go_wp2_with fail
  refine (KN.out w14).mono ?_
  rintro e w15 ⟨rfl, C⟩
  replace M := Lib.hid (M.out.trans C.out)
  replace G := Lib.hid (G.out.chg C.out (by simp))
  replace B1 := Lib.hid (B1.out.chg C.out (by simp))
  replace B2 := Lib.hid (B2.out.chg C.out (by simp))
  replace B3 := Lib.hid (B3.out.chg C.out (by simp))
  replace B4 := Lib.hid (B4.out.chg C.out (by simp))
  replace B5 := Lib.hid (B5.out.chg C.out (by simp))
  replace B6 := Lib.hid (B6.out.chg C.out (by simp))
  clear C KN
  have b1_0 := B1.out.cell (j := 0) rfl
  have b1_1 := B1.out.cell (j := 1) rfl
  have b1_2 := B1.out.cell (j := 2) rfl
  have b1_3 := B1.out.cell (j := 3) rfl
  have b1_4 := B1.out.cell (j := 4) rfl
  have b1_5 := B1.out.cell (j := 5) rfl
  have b1_6 := B1.out.cell (j := 6) rfl
  have b1_7 := B1.out.cell (j := 7) rfl
  have b2_0 := B2.out.cell (j := 0) rfl
  have b2_1 := B2.out.cell (j := 1) rfl
  have b2_2 := B2.out.cell (j := 2) rfl
  have b2_3 := B2.out.cell (j := 3) rfl
  have b3_0 := B3.out.cell (j := 0) rfl
  have b3_1 := B3.out.cell (j := 1) rfl
  have b3_2 := B3.out.cell (j := 2) rfl
  have b4_0 := B4.out.cell (j := 0) rfl
  have b4_1 := B4.out.cell (j := 1) rfl
  have b4_2 := B4.out.cell (j := 2) rfl
  have b4_3 := B4.out.cell (j := 3) rfl
  have b4_4 := B4.out.cell (j := 4) rfl
  have b4_5 := B4.out.cell (j := 5) rfl
  have b4_6 := B4.out.cell (j := 6) rfl
  have b4_7 := B4.out.cell (j := 7) rfl
  have b5_0 := B5.out.cell (j := 0) rfl
  have b5_1 := B5.out.cell (j := 1) rfl
  have b5_2 := B5.out.cell (j := 2) rfl
  have b5_3 := B5.out.cell (j := 3) rfl
  have b6_0 := B6.out.cell (j := 0) rfl
  have b6_1 := B6.out.cell (j := 1) rfl
  have b6_2 := B6.out.cell (j := 2) rfl
  have qh := Qh.out w15
  have qc := Qc.out w15
  have qk := Qk.out w15
  clear Qh Qc Qk G
  go_wp2_with fail
  refine (KR.out w15 M.out).mono ?_
  rintro e wy ⟨rfl, rfl⟩
  go_wp2_with fail
  go_ret
  exact ⟨by first | rfl | simp, M⟩

theorem recordReads_walk (v : Value) (xs : List Int) (w : World) (h : Sl w v xs) (hcap : ∀ ao n c, v = .slice ao n c → n ≤ c) (hx : By xs) :
    Calls Try.prog 4 #[v] w fun e w' => e = .returned (.bool true) ∧ Chg [] w w' :=
  (recordReads_core v (nats xs) w (by rw [ints_nats hx]; exact h) (nats_bs hx) hcap).mono fun _ _ h => ⟨h.1, h.2.out⟩

end Go.Proofs.Ytnjemjkjbeingaa