/-
  The document's layout of blocks: At. By an AI agent.
-/
import Derived.Test.YtheplbjlfkjncaaRefGeom3
import Derived.Test.YtheplbjlfkjncaaGmLay
import Derived.Deep.CutBlock
import Derived.Deep.DeepCutAuto
namespace Go.Proofs.Ytheplbjlfkjncaa
open Go.RowKit

set_option maxHeartbeats 4000000 in
set_option maxRecDepth 100000 in
theorem rgat_in (g : Gm) (hg : g.Ok) (w : World) (m r : Nat) (hm : m < g.n) (hr : r < g.rows) (hne : m ≠ g.par (r / g.k)) : Calls Try.prog 16 #[.agg #[.int .i64 (g.n : Int), .int .i64 (g.k : Int), .int .i64 (g.s : Int)], .int .i64 (m : Int), .int .i64 (r : Int)] w (Says w (.tuple #[.int .i64 (g.block m r : Int), .bool false, .int .i64 0])) := by
  obtain ⟨CA, K0⟩ := geo_box (g.n : Int) (g.k : Int) (g.s : Int) w
  have CK := Lib.hid (rgcheck_good _ _ _ (w.alloc (.cells #[.int .i64 (g.n : Int), .int .i64 (g.k : Int), .int .i64 (g.s : Int)] 23)) hg.valid)
  have PR : Hid (∀ w', Calls Try.prog 14 #[.agg #[.int .i64 (g.n : Int), .int .i64 (g.k : Int), .int .i64 (g.s : Int)], .int .i64 (r : Int)] w' (Says w' (.tuple #[.int .i64 (g.par (r / g.k) : Int), .int .i64 0]))) := fun w' => rgparity_in g hg w' r hr
  have hbl := Gm.block_lt hg hm hne hr
  have hle := Gm.le_blocks hg
  have hlr := Gm.le_rows hg
  have hn := hg.n
  have hk := hg.k
  obtain ⟨Q, hQ⟩ : ∃ Q, Q = r / g.k := ⟨_, rfl⟩
  obtain ⟨p, hp⟩ : ∃ p, p = g.par Q := ⟨_, rfl⟩
  have hpl : p < g.n := by rw [hp]; exact Gm.par_lt (by omega) _
  obtain ⟨F, hF⟩ : ∃ F, F = g.far p m := ⟨_, rfl⟩
  have hFl : F < g.n := by rw [hF]; exact Gm.far_lt (by omega) _ _
  obtain ⟨X, hX⟩ : ∃ X, X = r % g.k := ⟨_, rfl⟩
  obtain ⟨D, hD⟩ : ∃ D, D = g.n - 1 := ⟨_, rfl⟩
  obtain ⟨U, hU⟩ : ∃ U, U = Q * D := ⟨_, rfl⟩
  obtain ⟨V, hV⟩ : ∃ V, V = U * g.k := ⟨_, rfl⟩
  obtain ⟨G, hG⟩ : ∃ G, G = F * g.k := ⟨_, rfl⟩
  obtain ⟨S, hS⟩ : ∃ S, S = V + G := ⟨_, rfl⟩
  obtain ⟨T, hT⟩ : ∃ T, T = g.block m r := ⟨_, rfl⟩
  have hTS : T = S + X := by rw [hT, hS, hV, hG, hU, hX, hF, hp, hD, hQ]; rfl
  rw [← hT] at hbl ⊢
  rw [← hQ, ← hp] at PR hne
  have bT : T ≤ 1000000 := by omega
  have bS : S ≤ 1000000 := by omega
  have bV : V ≤ 1000000 := by omega
  have bG : G ≤ 1000000 := by omega
  have bU : U ≤ 1000000 := Nat.le_trans (by rw [hV]; exact Nat.le_mul_of_pos_right _ (by omega)) bV
  have bX : X ≤ 1000000 := by omega
  have bQ : Q ≤ 1000000 := Nat.le_trans (by rw [hQ]; exact Nat.div_le_self _ _) (by omega : r ≤ 1000000)
  have bD : D ≤ 1000000 := by omega
  have bF : F ≤ 1000000 := by omega
  obtain ⟨z1, hz1⟩ : ∃ z1 : Int, (m : Int) - (p : Int) = z1 := ⟨_, rfl⟩
  obtain ⟨z2, hz2⟩ : ∃ z2 : Int, z1 - 1 = z2 := ⟨_, rfl⟩
  obtain ⟨N2, hN2⟩ : ∃ N2 : Nat, N2 = 2 * g.n := ⟨_, rfl⟩
  obtain ⟨Y, hY⟩ : ∃ Y : Nat, Y = m + 2 * g.n - p - 1 := ⟨_, rfl⟩
  have e1 : (2 : Int) * (g.n : Int) = (N2 : Int) := by omega
  have e2 : z2 + (N2 : Int) = (Y : Int) := by omega
  have e4 : (g.n : Int) - 1 = (D : Int) := by omega
  have e5 : (Q : Int) * (D : Int) = (U : Int) := by rw [hU, Int.natCast_mul]
  have e6 : (U : Int) * (g.k : Int) = (V : Int) := by rw [hV, Int.natCast_mul]
  have e7 : (F : Int) * (g.k : Int) = (G : Int) := by rw [hG, Int.natCast_mul]
  have e8 : (V : Int) + (G : Int) = (S : Int) := by omega
  have e9 : (S : Int) + (X : Int) = (T : Int) := by omega
  have n0 : ¬ (g.n : Int) = 0 := by omega
  have k0 : ¬ (g.k : Int) = 0 := by omega
  have m0 : ¬ (m : Int) < 0 := by omega
  have m1 : ¬ (g.n : Int) ≤ (m : Int) := by omega
  have m2 : (m : Int) ≤ 16 := by omega
  have m3 : (0 : Int) ≤ m := Int.natCast_nonneg _
  have mp : ¬ (m : Int) = (p : Int) := by omega
  have r3 : (0 : Int) ≤ r := Int.natCast_nonneg _
  have bz1 : -1000000 ≤ z1 := by omega
  have bz2 : z1 ≤ 1000000 := by omega
  have bz3 : -1000000 ≤ z2 := by omega
  have bz4 : z2 ≤ 1000000 := by omega
  have bN : N2 ≤ 1000000 := by omega
  have bY : Y ≤ 1000000 := by omega
  have d1 : Int.tmod (Y : Int) (g.n : Int) = (F : Int) := by rw [hF, hY]; rfl
  have d2 : Int.tdiv (r : Int) (g.k : Int) = (Q : Int) := by rw [hQ]; rfl
  have d3 : Int.tmod (r : Int) (g.k : Int) = (X : Int) := by rw [hX]; rfl
  have w_T := Lib.hid (wrap_small bT)
  have w_S := Lib.hid (wrap_small bS)
  have w_V := Lib.hid (wrap_small bV)
  have w_G := Lib.hid (wrap_small bG)
  have w_U := Lib.hid (wrap_small bU)
  have w_X := Lib.hid (wrap_small bX)
  have w_Q := Lib.hid (wrap_small bQ)
  have w_D := Lib.hid (wrap_small bD)
  have w_F := Lib.hid (wrap_small bF)
  have w_N := Lib.hid (wrap_small bN)
  have w_Y := Lib.hid (wrap_small bY)
  have w_z1 := Lib.hid (wrap_int bz1 bz2)
  have w_z2 := Lib.hid (wrap_int bz3 bz4)
  clear m2 m3 r3
  replace e1 := Lib.hid e1
  replace e2 := Lib.hid e2
  replace e4 := Lib.hid e4
  replace e5 := Lib.hid e5
  replace e6 := Lib.hid e6
  replace e7 := Lib.hid e7
  replace e8 := Lib.hid e8
  replace e9 := Lib.hid e9
  replace hz1 := Lib.hid hz1
  replace hz2 := Lib.hid hz2
  replace n0 := Lib.hid n0
  replace k0 := Lib.hid k0
  replace m0 := Lib.hid m0
  replace m1 := Lib.hid m1
  replace mp := Lib.hid mp
  replace d1 := Lib.hid d1
  replace d2 := Lib.hid d2
  replace d3 := Lib.hid d3
  clear hg hm hr hne hbl hle hlr hn hk hpl hFl hD hU hV hG hS hT hTS hp hF hX hQ hN2 hY bT bS bV bG bU bX bQ bD bF bN bY bz1 bz2 bz3 bz4
  generalize (g.n : Int) = n at *
  generalize (g.k : Int) = k at *
  generalize (g.s : Int) = s at *
  generalize (m : Int) = m' at *
  generalize (p : Int) = p' at *
  generalize (r : Int) = r' at *
  generalize (Q : Int) = Q' at *
  generalize (X : Int) = X' at *
  generalize (D : Int) = D' at *
  generalize (U : Int) = U' at *
  generalize (V : Int) = V' at *
  generalize (G : Int) = G' at *
  generalize (S : Int) = S' at *
  generalize (T : Int) = T' at *
  generalize (F : Int) = F' at *
  generalize (N2 : Int) = N' at *
  generalize (Y : Int) = Y' at *
  have x0 := m0.out
  have x1 := m1.out
  have x2 := mp.out
  clear m0 m1 mp
  go_enter Try.func16, Try.ntmps16
  go_wp2_with fail
  refine CK.out.mono ?_
  rintro e w1 ⟨rfl, C⟩
  have C1 := C
  obtain ⟨c0, c1, c2⟩ := K0.out w1 C.out
  clear CK C
  go_wp2_with fail
  refine (PR.out w1).mono ?_
  rintro e w2 ⟨rfl, C⟩
  have C2 : Hid (Chg [] (w.alloc (.cells #[.int .i64 n, .int .i64 k, .int .i64 s] 23)) w2) := C1.out.trans C.out
  have CW : Hid (Chg [] w w2) := CA.out.trans C2.out
  clear c0 c1 c2 C C1 PR
  obtain ⟨c0, c1, c2⟩ := K0.out w2 C2.out
  clear K0 CA C2 c2
  go_upto_region 11 with fail
  clear x0 x1 x2
  rename_i hm0 hm1 _ _
  clear hm0 hm1
  obtain ⟨a1, a2⟩ := w_z1.out
  obtain ⟨a3, a4⟩ := w_z2.out
  obtain ⟨a5, a6⟩ := w_N.out
  obtain ⟨a7, a8⟩ := w_Y.out
  obtain ⟨a9, aa⟩ := w_F.out
  have y1 := e1.out
  have y2 := e2.out
  have y3 := hz1.out
  have y4 := hz2.out
  have y5 := d1.out
  have y6 := n0.out
  go_upto_region 12 with fail
  clear a1 a2 a3 a4 a5 a6 a7 a8 a9 aa w_z1 w_z2 w_N w_Y w_F e1 e2 hz1 hz2 d1 y1 y2 y3 y4 y5 y6
  obtain ⟨a1, a2⟩ := w_Q.out
  obtain ⟨a3, a4⟩ := w_D.out
  obtain ⟨a5, a6⟩ := w_U.out
  obtain ⟨a7, a8⟩ := w_V.out
  obtain ⟨a9, aa⟩ := w_G.out
  obtain ⟨ab, ac⟩ := w_S.out
  obtain ⟨ad, ae⟩ := w_X.out
  obtain ⟨af, ag⟩ := w_T.out
  have y1 := e4.out
  have y2 := e5.out
  have y3 := e6.out
  have y4 := e7.out
  have y5 := e8.out
  have y6 := e9.out
  have y7 := k0.out
  have y8 := d2.out
  have y9 := d3.out
  clear e4 e5 e6 e7 e8 e9 k0 d2 d3 w_Q w_D w_U w_V w_G w_S w_X w_T n0
  go_quiet (fail)
  clear a1 a2 a3 a4 a5 a6 a7 a8 a9 aa ab ac ad ae af ag y1 y2 y3 y4 y5 y6 y7 y8 y9
  go_wp2_with fail
  go_ret3
  exact ⟨rfl, CW.out.drewN _⟩

end Go.Proofs.Ytheplbjlfkjncaa
