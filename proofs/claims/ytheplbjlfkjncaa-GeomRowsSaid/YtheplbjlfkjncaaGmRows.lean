/-
  GeomRows, walked. By an AI agent.
-/
import Derived.Test.YtheplbjlfkjncaaGmKnown
import Derived.Deep.CutBlock
import Derived.Deep.DeepCutAuto
namespace Go.Proofs.Ytheplbjlfkjncaa
open Go.RowKit

/-! ### the numbers -/

/-- The first block of a stripe. -/
theorem Gm.first {g : Gm} (h : g.Ok) (b : Nat) : g.stripe (b / g.each * g.each) = g.stripe b ∧ g.row (b / g.each * g.each) = g.stripe b * g.k ∧ g.member (b / g.each * g.each) = (g.par (g.stripe b) + 1) % g.n := by
  have he := each_pos h
  have hk : 0 < g.k := by have := h.k; omega
  have h1 : b / g.each * g.each / g.each = b / g.each := Nat.mul_div_cancel _ he
  have h2 : b / g.each * g.each % g.each = 0 := Nat.mul_mod_left _ _
  refine ⟨h1, ?_, ?_⟩
  · unfold row stripe
    rw [h1, h2, Nat.zero_mod, Nat.add_zero]
  · unfold member stripe mem
    rw [h1, h2, Nat.zero_div, Nat.add_zero]

/-- The block a chunk on, in the same stripe. -/
theorem Gm.on {g : Gm} (h : g.Ok) (b : Nat) (hs : g.stripe (b + g.k) = g.stripe b) : g.row (b + g.k) = g.row b ∧ g.member (b + g.k) = (g.member b + 1) % g.n := by
  have he := each_pos h
  have hk : 0 < g.k := by have := h.k; omega
  have e1 : b / g.each * g.each + b % g.each = b := Nat.div_add_mod' _ _
  have e2 : (b + g.k) / g.each * g.each + (b + g.k) % g.each = b + g.k := Nat.div_add_mod' _ _
  have hs' : (b + g.k) / g.each = b / g.each := hs
  rw [hs'] at e2
  have e3 : (b + g.k) % g.each = b % g.each + g.k := by omega
  refine ⟨?_, ?_⟩
  · unfold row
    rw [hs, e3, Nat.add_mod_right]
  · unfold member
    rw [hs, e3, Nat.add_div_right _ hk]
    unfold mem
    rw [Nat.mod_add_mod]
    rfl

/-- A number that is read out of a byte. -/
theorem of_byte (m : Int) (h : 0 ≤ m ∧ m ≤ 255) : ∃ a : Nat, m = (a : Int) ∧ a ≤ 255 := ⟨m.toNat, by omega, by omega⟩

theorem of_short (m : Int) (h : 0 ≤ m ∧ m ≤ 65535) : ∃ a : Nat, m = (a : Int) ∧ a ≤ 65535 := ⟨m.toNat, by omega, by omega⟩

set_option maxHeartbeats 4000000 in
set_option maxRecDepth 100000 in
theorem geomRows_walk (a0 a1 a2 a3 : Int) (w : World) (r0 : 0 ≤ a0 ∧ a0 ≤ 255) (r1 : 0 ≤ a1 ∧ a1 ≤ 255) (r2 : 0 ≤ a2 ∧ a2 ≤ 255) (r3 : 0 ≤ a3 ∧ a3 ≤ 65535) :
    Calls Try.prog 7 #[.int .u8 a0, .int .u8 a1, .int .u8 a2, .int .u16 a3] w fun e w' => e = .returned (.bool true) ∧ Chg [] w w' := by
  obtain ⟨m, rfl, hm⟩ := of_byte a0 r0
  obtain ⟨c, rfl, hc⟩ := of_byte a1 r1
  obtain ⟨t, rfl, ht⟩ := of_byte a2 r2
  obtain ⟨z, rfl, hz⟩ := of_short a3 r3
  clear r0 r1 r2 r3
  obtain ⟨n, hn⟩ : ∃ n, n = m % 14 + 3 := ⟨_, rfl⟩
  obtain ⟨k, hk⟩ : ∃ k, k = c % 16 + 1 := ⟨_, rfl⟩
  obtain ⟨s, hs⟩ : ∃ s, s = t + 1 := ⟨_, rfl⟩
  obtain ⟨x14, hx14⟩ : ∃ x, x = m % 14 := ⟨_, rfl⟩
  obtain ⟨x16, hx16⟩ : ∃ x, x = c % 16 := ⟨_, rfl⟩
  obtain ⟨g, hge⟩ : ∃ g : Gm, g = ⟨n, k, s⟩ := ⟨_, rfl⟩
  have hg : g.Ok := by rw [hge]; exact ⟨⟨by simp only; omega, by simp only; omega⟩, ⟨by simp only; omega, by simp only; omega⟩, ⟨by simp only; omega, by simp only; omega⟩⟩
  have gn : g.n = n := by rw [hge]
  have gk : g.k = k := by rw [hge]
  have gs : g.s = s := by rw [hge]
  have heach := Gm.each_pos hg
  have hble := Gm.le_blocks hg
  have hele := Gm.le_each hg
  have hbe := Gm.blocks_each g
  have hBp : 0 < g.blocks := by rw [hbe]; exact Nat.mul_pos (by have := hg.s; omega) heach
  obtain ⟨b, hb⟩ : ∃ b, b = z % g.blocks := ⟨_, rfl⟩
  have hbl : b < g.blocks := by rw [hb]; exact Nat.mod_lt _ hBp
  obtain ⟨f, hf⟩ : ∃ f, f = b / g.each * g.each := ⟨_, rfl⟩
  have hfl : f < g.blocks := Nat.lt_of_le_of_lt (by rw [hf]; exact Nat.div_mul_le_self _ _) hbl
  obtain ⟨f1, f2, f3⟩ := Gm.first hg b
  rw [← hf] at f1 f2 f3
  -- what is called
  have BL : Hid (∀ w', Calls Try.prog 20 #[.agg #[.int .i64 (g.n : Int), .int .i64 (g.k : Int), .int .i64 (g.s : Int)]] w' (Says w' (.int .i64 (g.blocks : Int)))) := fun w' => gblocks_good g hg w'
  have KN : Hid (∀ w', Calls Try.prog 23 #[] w' (Says w' (.bool true))) := known_any
  have O1 : Hid (∀ w', Calls Try.prog 9 #[.agg #[.int .i64 (g.n : Int), .int .i64 (g.k : Int), .int .i64 (g.s : Int)], .int .i64 (b : Int)] w' (Says w' (.tuple #[g.placeV b, .int .u16 0]))) := fun w' => gof_in g hg w' b hbl
  have O2 : Hid (∀ w', Calls Try.prog 9 #[.agg #[.int .i64 (g.n : Int), .int .i64 (g.k : Int), .int .i64 (g.s : Int)], .int .i64 (f : Int)] w' (Says w' (.tuple #[g.placeV f, .int .u16 0]))) := fun w' => gof_in g hg w' f hfl
  obtain ⟨S, hS⟩ : ∃ S, S = g.stripe b := ⟨_, rfl⟩
  obtain ⟨R, hR⟩ : ∃ R, R = g.row b := ⟨_, rfl⟩
  obtain ⟨M, hM⟩ : ∃ M, M = g.member b := ⟨_, rfl⟩
  obtain ⟨P, hP⟩ : ∃ P, P = g.par S := ⟨_, rfl⟩
  obtain ⟨R2, hR2⟩ : ∃ R, R = g.row f := ⟨_, rfl⟩
  obtain ⟨M2, hM2⟩ : ∃ M, M = g.member f := ⟨_, rfl⟩
  have hPV : g.placeV b = .agg #[.int .i64 (S : Int), .int .i64 (R : Int), .int .i64 (M : Int), .int .i64 (P : Int)] := by rw [hP, hM, hR, hS]; rfl
  have hPF : g.placeV f = .agg #[.int .i64 (S : Int), .int .i64 (R2 : Int), .int .i64 (M2 : Int), .int .i64 (P : Int)] := by
    rw [hP, hM2, hR2, hS, ← f1]; rfl
  rw [hPV] at O1
  rw [hPF] at O2
  have q1 : g.n - 1 ≤ 15 := by have := hg.n; omega
  obtain ⟨D, hD⟩ : ∃ D, D = g.n - 1 := ⟨_, rfl⟩
  obtain ⟨U, hU⟩ : ∃ U, U = b / g.each := ⟨_, rfl⟩
  obtain ⟨V, hV⟩ : ∃ V, V = U * D := ⟨_, rfl⟩
  have hVf : V * k = f := by rw [hV, hf, hU, hD, ← gk]; unfold Gm.each; rw [Nat.mul_assoc]
  have hnl : 3 ≤ n ∧ n ≤ 16 := by rw [← gn]; exact hg.n
  have hkl : 1 ≤ k ∧ k ≤ 16 := by rw [← gk]; exact hg.k
  have hsl : s ≤ 256 := by rw [← gs]; exact hg.s.2
  have hML : M < n := by rw [hM, ← gn]; exact (Gm.block_of hg b).2.2
  have hPL : P < n := by rw [hP, ← gn]; exact Gm.par_lt (by omega) _
  have hSL : S < 256 := Nat.lt_of_lt_of_le (by rw [hS]; exact (Gm.row_lt hg hbl).2) hg.s.2
  have hRk : S * k = R2 := by rw [hR2, f2, hS, gk]
  have hR2L : R2 < 1000000 := by have := (Gm.row_lt hg hfl).1; have := Gm.le_rows hg; omega
  have hM2e : M2 = (P + 1) % n := by rw [hM2, f3, hP, hS, gn]
  obtain ⟨P1, hP1⟩ : ∃ P1, P1 = P + 1 := ⟨_, rfl⟩
  obtain ⟨M1, hM1⟩ : ∃ M1, M1 = M + 1 := ⟨_, rfl⟩
  have hM2L : M2 < n := by rw [hM2e]; exact Nat.mod_lt _ (by omega)
  -- the third
  obtain ⟨b1, hb1⟩ : ∃ b1, b1 = b + k := ⟨_, rfl⟩
  have O3 : Hid ((∀ w', Calls Try.prog 9 #[.agg #[.int .i64 (g.n : Int), .int .i64 (g.k : Int), .int .i64 (g.s : Int)], .int .i64 (b1 : Int)] w' (Says w' (.tuple #[.agg #[.int .i64 0, .int .i64 0, .int .i64 0, .int .i64 0], .int .u16 3]))) ∨
      (∃ A1 A2 A3 A4 : Int, ((A1 == (S : Int)) = false ∧ (A1 != (S : Int)) = true) ∧ ∀ w', Calls Try.prog 9 #[.agg #[.int .i64 (g.n : Int), .int .i64 (g.k : Int), .int .i64 (g.s : Int)], .int .i64 (b1 : Int)] w' (Says w' (.tuple #[.agg #[.int .i64 A1, .int .i64 A2, .int .i64 A3, .int .i64 A4], .int .u16 0]))) ∨
      (∃ M3 : Nat, M3 ≤ 1000000 ∧ Int.tmod (M1 : Int) (n : Int) = (M3 : Int) ∧ ∀ w', Calls Try.prog 9 #[.agg #[.int .i64 (g.n : Int), .int .i64 (g.k : Int), .int .i64 (g.s : Int)], .int .i64 (b1 : Int)] w' (Says w' (.tuple #[.agg #[.int .i64 (S : Int), .int .i64 (R : Int), .int .i64 (M3 : Int), .int .i64 (P : Int)], .int .u16 0])))) := by
    by_cases h1 : b1 < g.blocks
    · refine .inr ?_
      by_cases h2 : g.stripe b1 = S
      · refine .inr ⟨g.member b1, ?_, ?_, fun w' => ?_⟩
        · have := (Gm.block_of hg b1).2.2
          have := hg.n
          omega
        · have hq := (Gm.on hg b (by rw [gk, ← hb1, h2, hS])).2
          rw [gk, ← hb1, ← hM, ← hM1, gn] at hq
          rw [hq]
          rfl
        · have hq := gof_in g hg w' b1 h1
          have e : g.placeV b1 = .agg #[.int .i64 (S : Int), .int .i64 (R : Int), .int .i64 (g.member b1 : Int), .int .i64 (P : Int)] := by
            have hq := (Gm.on hg b (by rw [gk, ← hb1, h2, hS])).1
            rw [gk, ← hb1, ← hR] at hq
            rw [hP, ← h2, ← hq]
            rfl
          rw [e] at hq
          exact hq
      · have hne : ¬ (g.stripe b1 : Int) = (S : Int) := by omega
        exact .inl ⟨_, _, _, _, ⟨beq_false_of_ne hne, by simp [hne]⟩, fun w' => gof_in g hg w' b1 h1⟩
    · exact .inl (fun w' => gof_out g hg w' b1 (.inr (by omega)))
  rw [gn, gk, gs] at BL O1 O2 O3
  obtain ⟨N, hN⟩ : ∃ N, N = g.blocks := ⟨_, rfl⟩
  rw [← hN] at BL hb hbl hBp hble hfl
  obtain ⟨E, hE⟩ : ∃ E, E = g.each := ⟨_, rfl⟩
  have hDk : D * k = E := by rw [hE, hD, ← gk]; rfl
  rw [← hE] at hU heach hele
  clear hPV hPF hf f1 f2 f3 hS hR hM hP hR2 hM2 hge hg hbe hN gk gs
  -- in the walk's own form
  have x1 : (x14 : Int) + 3 = (n : Int) := by omega
  have x2 : (x16 : Int) + 1 = (k : Int) := by omega
  have x3 : (t : Int) + 1 = (s : Int) := by omega
  have x4 : (n : Int) - 1 = (D : Int) := by omega
  have x5 : (D : Int) * (k : Int) = (E : Int) := by rw [← hDk, Int.natCast_mul]
  have x6 : (U : Int) * (D : Int) = (V : Int) := by rw [hV, Int.natCast_mul]
  have x7 : (V : Int) * (k : Int) = (f : Int) := by rw [← hVf, Int.natCast_mul]
  have x8 : (P : Int) + 1 = (P1 : Int) := by omega
  have x9 : (S : Int) * (k : Int) = (R2 : Int) := by rw [← hRk, Int.natCast_mul]
  have xa : (b : Int) + (k : Int) = (b1 : Int) := by omega
  have xb : (M : Int) + 1 = (M1 : Int) := by omega
  have n1 : ¬ (N : Int) < 1 := by omega
  have n2 : ¬ (N : Int) = 0 := by omega
  have n3 : ¬ (E : Int) = 0 := by omega
  have n4 : ¬ (n : Int) = 0 := by omega
  have hVl : V ≤ 1000000 := Nat.le_trans (by rw [← Nat.mul_one V]; exact Nat.mul_le_mul_left _ hkl.1) (by rw [hVf]; omega)
  have hUl : U ≤ 1000000 := Nat.le_trans (by rw [hU]; exact Nat.div_le_self _ _) (by omega : b ≤ 1000000)
  have lV := hVl
  have l14 : x14 ≤ 1000000 := by omega
  have l16 : x16 ≤ 1000000 := by omega
  have ln : n ≤ 1000000 := by omega
  have lk : k ≤ 1000000 := by omega
  have ls : s ≤ 1000000 := by omega
  have lz : z ≤ 1000000 := by omega
  have lm : m ≤ 1000000 := by omega
  have lc : c ≤ 1000000 := by omega
  have lt : t ≤ 1000000 := by omega
  have lb : b ≤ 1000000 := by omega
  have lD : D ≤ 1000000 := by omega
  have lE : E ≤ 1000000 := by omega
  have lf : f ≤ 1000000 := by omega
  have lP1 : P1 ≤ 1000000 := by omega
  have lR2 : R2 ≤ 1000000 := by omega
  have lM2 : M2 ≤ 1000000 := by omega
  have lb1 : b1 ≤ 1000000 := by omega
  have lM1 : M1 ≤ 1000000 := by omega
  have m0 : (0 : Int) ≤ m := Int.natCast_nonneg _
  have y1 : Int.tmod (m : Int) 14 = (x14 : Int) := by rw [hx14]; rfl
  have y2 : Int.tmod (c : Int) 16 = (x16 : Int) := by rw [hx16]; rfl
  have y1' : (m : Int) % 14 = (x14 : Int) := by rw [hx14]; rfl
  have y2' : (c : Int) % 16 = (x16 : Int) := by rw [hx16]; rfl
  have y3 : Int.tmod (z : Int) (N : Int) = (b : Int) := by rw [hb]; rfl
  have y4 : Int.tdiv (b : Int) (E : Int) = (U : Int) := by rw [hU]; rfl
  have y5 : Int.tmod (P1 : Int) (n : Int) = (M2 : Int) := by rw [hM2e, hP1]; rfl
  clear hn hk hs hx14 hx16 heach hble hele hBp hb hbl hfl q1 hD hU hV hVf hnl hkl hsl hML hPL hSL hRk hR2L hM2e hP1 hM1 hM2L hb1 hE hDk hm hc ht hz hVl gn m0
  have w_m := Lib.hid (wrap_small lm)
  have w_c := Lib.hid (wrap_small lc)
  have w_t := Lib.hid (wrap_small lt)
  have w_z := Lib.hid (wrap_small lz)
  have w_x14 := Lib.hid (wrap_small l14)
  have w_x16 := Lib.hid (wrap_small l16)
  have w_n := Lib.hid (wrap_small ln)
  have w_k := Lib.hid (wrap_small lk)
  have w_s := Lib.hid (wrap_small ls)
  have w_b := Lib.hid (wrap_small lb)
  have w_D := Lib.hid (wrap_small lD)
  have w_E := Lib.hid (wrap_small lE)
  have w_U := Lib.hid (wrap_small hUl)
  have w_V := Lib.hid (wrap_small lV)
  have w_f := Lib.hid (wrap_small lf)
  have w_P1 := Lib.hid (wrap_small lP1)
  have w_R2 := Lib.hid (wrap_small lR2)
  have w_M2 := Lib.hid (wrap_small lM2)
  have w_b1 := Lib.hid (wrap_small lb1)
  have w_M1 := Lib.hid (wrap_small lM1)
  clear lm lc lt lz l14 l16 ln lk ls lb lD lE hUl lV lf lP1 lR2 lM2 lb1 lM1
  generalize (m : Int) = m' at *
  generalize (c : Int) = c' at *
  generalize (t : Int) = t' at *
  generalize (z : Int) = z' at *
  generalize (x14 : Int) = x14' at *
  generalize (x16 : Int) = x16' at *
  generalize (n : Int) = n' at *
  generalize (k : Int) = k' at *
  generalize (s : Int) = s' at *
  generalize (b : Int) = b' at *
  generalize (D : Int) = D' at *
  generalize (E : Int) = E' at *
  generalize (U : Int) = U' at *
  generalize (V : Int) = V' at *
  generalize (f : Int) = f' at *
  generalize (P1 : Int) = P1' at *
  generalize (R2 : Int) = R2' at *
  generalize (M2 : Int) = M2' at *
  generalize (b1 : Int) = b1' at *
  generalize (M1 : Int) = M1' at *
  generalize (S : Int) = S' at *
  generalize (R : Int) = R' at *
  generalize (M : Int) = M' at *
  generalize (P : Int) = P' at *
  generalize (N : Int) = N' at *
  have H0 : Hid (Side w (w.alloc (.cells #[.int .i64 n', .int .i64 k', .int .i64 s'] 23)) [blkT w.heap.size 23 [.int .i64 n', .int .i64 k', .int .i64 s']]) := (Side.nil (Chg.refl _ _)).box _ _
  obtain ⟨u_m, v_m⟩ := w_m.out
  obtain ⟨u_c, v_c⟩ := w_c.out
  obtain ⟨u_t, v_t⟩ := w_t.out
  obtain ⟨u_x14, v_x14⟩ := w_x14.out
  obtain ⟨u_x16, v_x16⟩ := w_x16.out
  obtain ⟨u_n, v_n⟩ := w_n.out
  obtain ⟨u_k, v_k⟩ := w_k.out
  obtain ⟨u_s, v_s⟩ := w_s.out
  go_enter Try.func7, Try.ntmps7
  go_wp2_with fail
  refine (BL.out _).mono ?_
  rintro e w1 ⟨rfl, C⟩
  replace H0 := Lib.hid (H0.out.quiet C.out)
  clear C BL x1 x2 x3 y1 y2 y1' y2'
  clear u_m v_m u_c v_c u_t v_t u_x14 v_x14 u_x16 v_x16 u_n v_n u_k v_k u_s v_s
  go_wp2_with fail
  refine (KN.out _).mono ?_
  rintro e w2 ⟨rfl, C⟩
  replace H0 := Lib.hid (H0.out.quiet C.out)
  clear C KN
  have c0 := (H0.out.get 0 rfl : Blk _ _ _ _).cell (j := 0) rfl
  have c1 := (H0.out.get 0 rfl : Blk _ _ _ _).cell (j := 1) rfl
  have c2 := (H0.out.get 0 rfl : Blk _ _ _ _).cell (j := 2) rfl
  obtain ⟨u_z, v_z⟩ := w_z.out
  obtain ⟨u_b, v_b⟩ := w_b.out
  go_wp2_with fail
  refine (O1.out _).mono ?_
  rintro e w3 ⟨rfl, C⟩
  have H1 := Lib.hid ((H0.out.quiet C.out).box [.int .i64 S', .int .i64 R', .int .i64 M', .int .i64 P'] 28)
  have H2 := Lib.hid (H0.out.quiet C.out)
  clear c0 c1 c2 C O1 H0 y3 n2 n1
  clear u_z v_z u_b v_b
  have c0 := (H2.out.get 0 rfl : Blk _ _ _ _).cell (j := 0) rfl
  have c1 := (H2.out.get 0 rfl : Blk _ _ _ _).cell (j := 1) rfl
  have c2 := (H2.out.get 0 rfl : Blk _ _ _ _).cell (j := 2) rfl
  have hz : w.heap.size < w3.heap.size := (H2.out.get 0 rfl : Blk _ _ _ _).lt
  go_wp2_with fail
  clear c0 c1 c2 H2 hz
  obtain ⟨B1, hB1⟩ : ∃ B1, B1 = w3.heap.size := ⟨_, rfl⟩
  rw [← hB1] at H1 ⊢
  clear hB1
  generalize w3.alloc (.cells #[.int .i64 S', .int .i64 R', .int .i64 M', .int .i64 P'] 28) = w4 at *
  have K0 : Hid (∀ w', Chg [] w4 w' → w'.cell? ⟨w.heap.size, 0, none⟩ = some (.int .i64 n') ∧ w'.cell? ⟨w.heap.size, 1, none⟩ = some (.int .i64 k') ∧ w'.cell? ⟨w.heap.size, 2, none⟩ = some (.int .i64 s')) := fun w' C => by
    have q : Blk w' w.heap.size 23 [.int .i64 n', .int .i64 k', .int .i64 s'] := (H1.out.quiet C).get 1 rfl
    exact ⟨q.cell (j := 0) rfl, q.cell (j := 1) rfl, q.cell (j := 2) rfl⟩
  obtain ⟨c0, c1, c2⟩ := K0.out w4 (Chg.refl _ _)
  have C1 : Hid (Chg [] w4 (w4.drewN 1)) := (Chg.refl _ _).drewN 1
  obtain ⟨u_D, v_D⟩ := w_D.out
  obtain ⟨u_E, v_E⟩ := w_E.out
  obtain ⟨u_U, v_U⟩ := w_U.out
  obtain ⟨u_V, v_V⟩ := w_V.out
  obtain ⟨u_f, v_f⟩ := w_f.out
  have KB : Hid (∀ w5, Chg [] (w4.alloc (.cells #[.int .i64 0, .int .i64 0, .int .i64 0, .int .i64 0] 28)) w5 → (w5.cell? ⟨w4.heap.size, 0, none⟩ = some (.int .i64 0) ∧ w5.cell? ⟨w4.heap.size, 1, none⟩ = some (.int .i64 0) ∧ w5.cell? ⟨w4.heap.size, 2, none⟩ = some (.int .i64 0) ∧ w5.cell? ⟨w4.heap.size, 3, none⟩ = some (.int .i64 0) ∧
      w5.frozen? ⟨w4.heap.size, 0, none⟩ = false ∧ w5.frozen? ⟨w4.heap.size, 1, none⟩ = false ∧ w5.frozen? ⟨w4.heap.size, 2, none⟩ = false ∧ w5.frozen? ⟨w4.heap.size, 3, none⟩ = false) ∧ Side w ((((w5.setCell ⟨w4.heap.size, 0, none⟩ (.int .i64 S')).setCell ⟨w4.heap.size, 1, none⟩ (.int .i64 R2')).setCell ⟨w4.heap.size, 2, none⟩ (.int .i64 M2')).setCell ⟨w4.heap.size, 3, none⟩ (.int .i64 P')) [blkT w4.heap.size 28 [.int .i64 S', .int .i64 R2', .int .i64 M2', .int .i64 P'], blkT B1 28 [.int .i64 S', .int .i64 R', .int .i64 M', .int .i64 P'], blkT w.heap.size 23 [.int .i64 n', .int .i64 k', .int .i64 s']]) := fun w5 C => by
    have h5 := (H1.out.box [.int .i64 0, .int .i64 0, .int .i64 0, .int .i64 0] 28).quiet C
    have q : Blk w5 w4.heap.size 28 [.int .i64 0, .int .i64 0, .int .i64 0, .int .i64 0] := h5.get 0 rfl
    refine ⟨⟨q.cell rfl, q.cell rfl, q.cell rfl, q.cell rfl, q.free 0, q.free 1, q.free 2, q.free 3⟩, ?_⟩
    refine h5.turn (s := [w4.heap.size]) (((((Chg.refl _ _).setCell (.inl (by simp)) _).setCell (.inl (by simp)) _).setCell (.inl (by simp)) _).setCell (.inl (by simp)) _) (fun k hk => .inl hk) ?_ (fun k hk => .inl hk)
    exact (((q.set 0 _).set 1 _).set 2 _).set 3 _
  have KG : Hid (∀ w', Side w w' [blkT w4.heap.size 28 [.int .i64 S', .int .i64 R2', .int .i64 M2', .int .i64 P'], blkT B1 28 [.int .i64 S', .int .i64 R', .int .i64 M', .int .i64 P'], blkT w.heap.size 23 [.int .i64 n', .int .i64 k', .int .i64 s']] → w'.cell? ⟨w.heap.size, 0, none⟩ = some (.int .i64 n') ∧ w'.cell? ⟨w.heap.size, 1, none⟩ = some (.int .i64 k') ∧ w'.cell? ⟨w.heap.size, 2, none⟩ = some (.int .i64 s')) := fun w' h => by
    have q : Blk w' w.heap.size 23 [.int .i64 n', .int .i64 k', .int .i64 s'] := h.get 2 rfl
    exact ⟨q.cell (j := 0) rfl, q.cell (j := 1) rfl, q.cell (j := 2) rfl⟩
  go_cut [14, 15] (fun s14 s15 wx => ∃ B2, s14 = .pointer (some ⟨B2, 0, none⟩) ∧ s15 = .int .u16 0 ∧ Hid (Side w wx [blkT B2 28 [.int .i64 S', .int .i64 R2', .int .i64 M2', .int .i64 P'], blkT B1 28 [.int .i64 S', .int .i64 R', .int .i64 M', .int .i64 P'], blkT w.heap.size 23 [.int .i64 n', .int .i64 k', .int .i64 s']]))
  case first =>
    go_region_held3 (fun w' : World => w'.cell? ⟨w.heap.size, 0, none⟩ = some (.int .i64 n') ∧ w'.cell? ⟨w.heap.size, 1, none⟩ = some (.int .i64 k') ∧ w'.cell? ⟨w.heap.size, 2, none⟩ = some (.int .i64 s')) (first | exact ⟨c0, c1, c2⟩ | exact K0.out _ C1.out | exact K0.out _ (C1.out.alloc _) | exact K0.out _ C3.out | exact KG.out _ (KB.out _ C2.out).2) (first
      | (go_at_call 9; refine (O2.out _).mono ?_; rintro e w5 ⟨rfl, C⟩; replace C1 := Lib.hid (C1.out.trans C.out); clear C; have HF := Lib.hid ((H1.out.quiet C1.out).box [.int .i64 S', .int .i64 R2', .int .i64 M2', .int .i64 P'] 28))
      | (go_at_call 9; refine (O2.out _).mono ?_; rintro e w5 ⟨rfl, C⟩; have C2 : Hid (Chg [] (w4.alloc (.cells #[.int .i64 0, .int .i64 0, .int .i64 0, .int .i64 0] 28)) w5) := ((Chg.refl _ _).drewN 1).trans C.out; have C3 : Hid (Chg [] w4 w5) := ((Chg.refl _ _).alloc _).trans C2.out; obtain ⟨⟨g0, g1, g2, g3, f0, f1, f2, f3⟩, HF'⟩ := KB.out _ C2.out; have HF := Lib.hid HF'; clear HF' C))
    all_goals
      go_wp2_with fail
      go_meet
      exact ⟨_, rfl, rfl, HF⟩
  case rest =>
    obtain ⟨B2, rfl, rfl, HC⟩ := hcut
    clear KB KG K0 C1 c0 c1 c2 H1 O2 x4 x5 x6 x7 y4 n3 u_D v_D u_E v_E u_U v_U u_V v_V u_f v_f
    have c0 := (HC.out.get 2 rfl : Blk _ _ _ _).cell (j := 0) rfl
    have c1 := (HC.out.get 2 rfl : Blk _ _ _ _).cell (j := 1) rfl
    have c2 := (HC.out.get 2 rfl : Blk _ _ _ _).cell (j := 2) rfl
    have p0 := (HC.out.get 1 rfl : Blk _ _ _ _).cell (j := 0) rfl
    have p1 := (HC.out.get 1 rfl : Blk _ _ _ _).cell (j := 1) rfl
    have p2 := (HC.out.get 1 rfl : Blk _ _ _ _).cell (j := 2) rfl
    have p3 := (HC.out.get 1 rfl : Blk _ _ _ _).cell (j := 3) rfl
    have q0 := (HC.out.get 0 rfl : Blk _ _ _ _).cell (j := 0) rfl
    have q1 := (HC.out.get 0 rfl : Blk _ _ _ _).cell (j := 1) rfl
    have q2 := (HC.out.get 0 rfl : Blk _ _ _ _).cell (j := 2) rfl
    have q3 := (HC.out.get 0 rfl : Blk _ _ _ _).cell (j := 3) rfl
    obtain ⟨u_P1, v_P1⟩ := w_P1.out
    obtain ⟨u_R2, v_R2⟩ := w_R2.out
    obtain ⟨u_M2, v_M2⟩ := w_M2.out
    obtain ⟨u_b1, v_b1⟩ := w_b1.out
    go_wp2_with fail
    go_quiet (fail)
    clear x8 x9 y5 u_P1 v_P1 u_R2 v_R2 u_M2 v_M2 q0 q1 q2 q3
    go_wp2_with fail
    rcases O3.out with h3 | ⟨A1, A2, A3, A4, ⟨j1, j2⟩, h3⟩ | ⟨M3, lM3, y6, h3⟩
    · clear O3
      refine (h3 _).mono ?_
      rintro e w6 ⟨rfl, C⟩
      have H6 := Lib.hid ((HC.out.quiet ((Chg.refl _ _).drewN nq)).quiet C.out)
      have F := Lib.hid (H6.out.box [.int .i64 0, .int .i64 0, .int .i64 0, .int .i64 0] 28).chg
      clear c0 c1 c2 p0 p1 p2 p3 C HC h3 xa u_b1 v_b1
      have zg : w.heap.size < w6.heap.size := (H6.out.get 2 rfl : Blk _ _ _ _).lt
      have zp : B1 < w6.heap.size := (H6.out.get 1 rfl : Blk _ _ _ _).lt
      clear H6
      go_wp2_with fail
      go_ret
      exact ⟨rfl, F.out⟩
    · clear O3
      refine (h3 _).mono ?_
      rintro e w6 ⟨rfl, C⟩
      have H6 := Lib.hid ((HC.out.quiet ((Chg.refl _ _).drewN nq)).quiet C.out)
      have F := Lib.hid (H6.out.box [.int .i64 A1, .int .i64 A2, .int .i64 A3, .int .i64 A4] 28).chg
      clear c0 c1 c2 p0 p1 p2 p3 C HC h3 xa u_b1 v_b1
      have zg : w.heap.size < w6.heap.size := (H6.out.get 2 rfl : Blk _ _ _ _).lt
      have zp : B1 < w6.heap.size := (H6.out.get 1 rfl : Blk _ _ _ _).lt
      have p0 := (H6.out.get 1 rfl : Blk _ _ _ _).cell (j := 0) rfl
      clear H6
      go_wp2_with fail
      go_ret
      exact ⟨rfl, F.out⟩
    · clear O3
      have w_M3 := Lib.hid (wrap_small lM3)
      clear lM3
      generalize (M3 : Int) = M3' at *
      refine (h3 _).mono ?_
      rintro e w6 ⟨rfl, C⟩
      have H6 := Lib.hid ((HC.out.quiet ((Chg.refl _ _).drewN nq)).quiet C.out)
      have F := Lib.hid (H6.out.box [.int .i64 S', .int .i64 R', .int .i64 M3', .int .i64 P'] 28).chg
      clear c0 c1 c2 p0 p1 p2 p3 C HC h3 xa u_b1 v_b1
      have zg : w.heap.size < w6.heap.size := (H6.out.get 2 rfl : Blk _ _ _ _).lt
      have zp : B1 < w6.heap.size := (H6.out.get 1 rfl : Blk _ _ _ _).lt
      have c0 := (H6.out.get 2 rfl : Blk _ _ _ _).cell (j := 0) rfl
      have p0 := (H6.out.get 1 rfl : Blk _ _ _ _).cell (j := 0) rfl
      have p1 := (H6.out.get 1 rfl : Blk _ _ _ _).cell (j := 1) rfl
      have p2 := (H6.out.get 1 rfl : Blk _ _ _ _).cell (j := 2) rfl
      have p3 := (H6.out.get 1 rfl : Blk _ _ _ _).cell (j := 3) rfl
      obtain ⟨u_M1, v_M1⟩ := w_M1.out
      obtain ⟨u_M3, v_M3⟩ := w_M3.out
      clear H6
      go_wp2_with fail
      go_quiet (fail)
      go_wp2_with fail
      go_ret
      exact ⟨rfl, F.out.drewN _⟩

end Go.Proofs.Ytheplbjlfkjncaa
