/-
  The document's layout of blocks: Of. By an AI agent.
-/
import Derived.Test.YtheplbjlfkjncaaRefGeom5
import Derived.Deep.CutBlock
import Derived.Deep.DeepCutAuto
namespace Go.Proofs.Ytheplbjlfkjncaa
open Go.RowKit

set_option maxHeartbeats 4000000 in
set_option maxRecDepth 100000 in
theorem rgof_in (g : Gm) (hg : g.Ok) (w : World) (b : Nat) (hb : b < g.blocks) : Calls Try.prog 13 #[.agg #[.int .i64 (g.n : Int), .int .i64 (g.k : Int), .int .i64 (g.s : Int)], .int .i64 (b : Int)] w (Says w (.tuple #[g.placeV b, .int .i64 0])) := by
  obtain ⟨W, hW⟩ : ∃ W, W = (w.alloc (.cells #[.int .i64 (g.n : Int), .int .i64 (g.k : Int), .int .i64 (g.s : Int)] 23)).alloc (.cells #[.int .i64 0, .int .i64 0, .int .i64 0, .int .i64 0] 28) := ⟨_, rfl⟩
  have L := geo_box (g.n : Int) (g.k : Int) (g.s : Int) w
  have CA : Hid (Chg [] w W) := by rw [hW]; exact L.1.out.alloc _
  have BP : Blk W (w.heap.size + 1) 28 [.int .i64 0, .int .i64 0, .int .i64 0, .int .i64 0] := by rw [hW]; exact heap_alloc2_new _ _ _
  have K0 : Hid (∀ w', Chg [] W w' → w'.cell? ⟨w.heap.size, 0, none⟩ = some (.int .i64 (g.n : Int)) ∧ w'.cell? ⟨w.heap.size, 1, none⟩ = some (.int .i64 (g.k : Int)) ∧ w'.cell? ⟨w.heap.size, 2, none⟩ = some (.int .i64 (g.s : Int))) := fun w' C => L.2.out w' (((Chg.refl _ _).alloc _).trans (by rw [hW] at C; exact C))
  have KS : Hid (∀ w', Chg [] W w' → ∀ a b c d, _) := fun w' C a b c d => fill4 rfl CA.out BP (Nat.le_succ _) w' C a b c d
  have CK : Hid (∀ w', Calls Try.prog 17 #[.agg #[.int .i64 (g.n : Int), .int .i64 (g.k : Int), .int .i64 (g.s : Int)]] w' (Says w' (.int .i64 0))) := fun w' => rgcheck_good _ _ _ w' hg.valid
  have BL : Hid (∀ w', Calls Try.prog 21 #[.agg #[.int .i64 (g.n : Int), .int .i64 (g.k : Int), .int .i64 (g.s : Int)]] w' (Says w' (.int .i64 (g.blocks : Int)))) := fun w' => rgblocks_good g hg w'
  have hrl := (Gm.row_lt hg hb).1
  have hn := hg.n
  have hk := hg.k
  have hep := Gm.each_pos hg
  have hee := Gm.le_each hg
  have hle := Gm.le_blocks hg
  have hlr := Gm.le_rows hg
  obtain ⟨D, hD⟩ : ∃ D, D = g.n - 1 := ⟨_, rfl⟩
  obtain ⟨E, hE⟩ : ∃ E, E = g.each := ⟨_, rfl⟩
  obtain ⟨S, hS⟩ : ∃ S, S = g.stripe b := ⟨_, rfl⟩
  obtain ⟨I, hI⟩ : ∃ I, I = b % g.each := ⟨_, rfl⟩
  obtain ⟨X, hX⟩ : ∃ X, X = S % g.n := ⟨_, rfl⟩
  obtain ⟨P, hP⟩ : ∃ P, P = g.par S := ⟨_, rfl⟩
  obtain ⟨U, hU⟩ : ∃ U, U = S * g.k := ⟨_, rfl⟩
  obtain ⟨Y, hY⟩ : ∃ Y, Y = I % g.k := ⟨_, rfl⟩
  obtain ⟨R, hR⟩ : ∃ R, R = g.row b := ⟨_, rfl⟩
  obtain ⟨A, hA⟩ : ∃ A, A = P + 1 := ⟨_, rfl⟩
  obtain ⟨J, hJ⟩ : ∃ J, J = I / g.k := ⟨_, rfl⟩
  obtain ⟨Z, hZ⟩ : ∃ Z, Z = A + J := ⟨_, rfl⟩
  obtain ⟨M, hM⟩ : ∃ M, M = g.member b := ⟨_, rfl⟩
  have hRU : R = U + Y := by rw [hR, hU, hY, hI, hS]; rfl
  have hXl : X < g.n := by rw [hX]; exact Nat.mod_lt _ (by omega)
  have hPX : P = g.n - 1 - X := by rw [hP, hX]; rfl
  have hMZ : M = Z % g.n := by rw [hM, hZ, hA, hJ, hP, hS, hI]; rfl
  have PV : Hid (g.placeV b = .agg #[.int .i64 (S : Int), .int .i64 (R : Int), .int .i64 (M : Int), .int .i64 (P : Int)]) := by
    show _ = _
    rw [hS, hR, hM, hP, hS]
    rfl
  rw [PV.out]
  rw [← hR] at hrl
  rw [← hE] at hep hee
  have bE : E ≤ 1000000 := by omega
  have bD : D ≤ 1000000 := by omega
  have bX : X ≤ 1000000 := by omega
  have bP : P ≤ 1000000 := by omega
  have bR : R ≤ 1000000 := by omega
  have bU : U ≤ 1000000 := by omega
  have bY : Y ≤ 1000000 := by omega
  have bb : b ≤ 1000000 := by omega
  have bS : S ≤ 1000000 := Nat.le_trans (by rw [hS]; exact Nat.div_le_self _ _) bb
  have bI : I ≤ 61440 := Nat.le_trans (by rw [hI]; exact Nat.mod_le _ _) (by omega : b ≤ 61440)
  have bJ : J ≤ 61440 := Nat.le_trans (by rw [hJ]; exact Nat.div_le_self _ _) bI
  have bA : A ≤ 1000000 := by omega
  have bZ : Z ≤ 1000000 := by omega
  have bM : M ≤ 1000000 := Nat.le_trans (by rw [hMZ]; exact Nat.mod_le _ _) bZ
  have E0 : ¬ (E : Int) = 0 := by omega
  have n0 : ¬ (g.n : Int) = 0 := by omega
  have k0 : ¬ (g.k : Int) = 0 := by omega
  have hb1 : ¬ (b : Int) < 0 := by omega
  have hb2 : ¬ (g.blocks : Int) ≤ (b : Int) := by omega
  have e0 : (g.n : Int) - 1 = (D : Int) := by omega
  have e1 : (D : Int) * (g.k : Int) = (E : Int) := by rw [hE, hD]; unfold Gm.each; rw [Int.natCast_mul]
  have e2 : (D : Int) - (X : Int) = (P : Int) := by omega
  have e3 : (S : Int) * (g.k : Int) = (U : Int) := by rw [hU, Int.natCast_mul]
  have e4 : (U : Int) + (Y : Int) = (R : Int) := by omega
  have e5 : (P : Int) + 1 = (A : Int) := by omega
  have e6 : (A : Int) + (J : Int) = (Z : Int) := by omega
  have d1 : Int.tdiv (b : Int) (E : Int) = (S : Int) := by rw [hS, hE]; rfl
  have d2 : Int.tmod (b : Int) (E : Int) = (I : Int) := by rw [hI, hE]; rfl
  have d3 : Int.tmod (S : Int) (g.n : Int) = (X : Int) := by rw [hX]; rfl
  have d4 : Int.tmod (I : Int) (g.k : Int) = (Y : Int) := by rw [hY]; rfl
  have d5 : Int.tdiv (I : Int) (g.k : Int) = (J : Int) := by rw [hJ]; rfl
  have d6 : Int.tmod (Z : Int) (g.n : Int) = (M : Int) := by rw [hMZ]; rfl
  have w_D := Lib.hid (wrap_small bD)
  have w_E := Lib.hid (wrap_small bE)
  have w_S := Lib.hid (wrap_small bS)
  have w_I := Lib.hid (wrap_small (x := I) (Nat.le_trans bI (by decide)))
  have w_X := Lib.hid (wrap_small bX)
  have w_P := Lib.hid (wrap_small bP)
  have w_U := Lib.hid (wrap_small bU)
  have w_Y := Lib.hid (wrap_small bY)
  have w_R := Lib.hid (wrap_small bR)
  have w_A := Lib.hid (wrap_small bA)
  have w_J := Lib.hid (wrap_small (x := J) (Nat.le_trans bJ (by decide)))
  have w_Z := Lib.hid (wrap_small bZ)
  have w_M := Lib.hid (wrap_small bM)
  clear hg hrl hn hk hep hee hle hlr hD hE hS hI hX hP hU hY hR hA hJ hZ hM hRU hXl hPX hMZ bE bD bX bP bR bU bY bb bS bI bJ bA bZ bM PV hb L BP
  generalize (g.blocks : Int) = N at *
  generalize (g.n : Int) = n at *
  generalize (g.k : Int) = k at *
  generalize (g.s : Int) = s at *
  generalize (b : Int) = b' at *
  generalize (D : Int) = D' at *
  generalize (E : Int) = E' at *
  generalize (S : Int) = S' at *
  generalize (I : Int) = I' at *
  generalize (X : Int) = X' at *
  generalize (P : Int) = P' at *
  generalize (U : Int) = U' at *
  generalize (Y : Int) = Y' at *
  generalize (R : Int) = R' at *
  generalize (A : Int) = A' at *
  generalize (J : Int) = J' at *
  generalize (Z : Int) = Z' at *
  generalize (M : Int) = M' at *
  go_enter Try.func13, Try.ntmps13
  go_wp2_with fail
  rw [← hW]
  clear hW
  refine (CK.out _).mono ?_
  rintro e w1 ⟨rfl, C1⟩
  obtain ⟨c0, c1, c2⟩ := K0.out w1 C1.out
  clear CK
  go_wp2_with fail
  refine (BL.out _).mono ?_
  rintro e w2 ⟨rfl, C2⟩
  have C3 := Lib.hid (C1.out.trans C2.out)
  clear c0 c1 c2 BL C1 C2
  obtain ⟨c0, c1, c2⟩ := K0.out w2 C3.out
  obtain ⟨a1, a2⟩ := w_D.out
  obtain ⟨a3, a4⟩ := w_E.out
  obtain ⟨a5, a6⟩ := w_S.out
  obtain ⟨a7, a8⟩ := w_I.out
  go_upto_region 10 with fail
  clear a3 a4 a5 a6 a7 a8 e1 d1 d2 E0 hb1 hb2
  obtain ⟨a3, a4⟩ := w_X.out
  obtain ⟨a5, a6⟩ := w_P.out
  go_quiet (fail)
  clear a1 a2 a3 a4 a5 a6 e0 e2 d3
  obtain ⟨a1, a2⟩ := w_U.out
  obtain ⟨a3, a4⟩ := w_Y.out
  obtain ⟨a5, a6⟩ := w_R.out
  obtain ⟨a7, a8⟩ := w_A.out
  obtain ⟨a9, aa⟩ := w_J.out
  obtain ⟨ab, ac⟩ := w_Z.out
  obtain ⟨ad, ae⟩ := w_M.out
  go_upto_region 11 with fail
  have C4 := Lib.hid (C3.out.drewN nq)
  generalize w2.drewN nq = w3 at *
  clear c0 c1 c2 C3
  obtain ⟨c0, c1, c2⟩ := K0.out w3 C4.out
  obtain ⟨⟨z0, z1, z2, z3, q0, q1, q2, q3, f0, f1, f2, f3⟩, _⟩ := KS.out w3 C4.out (.int .i64 0) (.int .i64 0) (.int .i64 0) (.int .i64 0)
  have FW := Lib.hid (KS.out _ (C4.out.drewN 1) (.int .i64 S') (.int .i64 R') (.int .i64 M') (.int .i64 P')).2
  clear KS C4 w_D w_E w_S w_I w_X w_P w_U w_Y w_R w_A w_J w_Z w_M CA K0
  go_still_tail 22, (by kernel_rfl)
  change wpList _ _ _ _ _ w3.drew
  clear a1 a2 a3 a4 a5 a6 a7 a8 a9 aa ab ac ad ae e3 e4 e5 e6 d4 d5 d6
  go_wp2_with fail
  refine bodyPost_ret (cell_and_tmp rfl _ _ (w.heap.size + 1) _ _ _ _ rfl FW.out.2 Try.underlying28 info_place) rfl ?_
  exact ⟨rfl, FW.out.1⟩

end Go.Proofs.Ytheplbjlfkjncaa
