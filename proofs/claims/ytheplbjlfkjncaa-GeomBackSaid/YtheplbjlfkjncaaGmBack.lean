/-
  GeomBack, walked. By an AI agent.
-/
import Derived.Test.YtheplbjlfkjncaaGmFair
import Derived.Deep.CutBlock
import Derived.Deep.DeepCutAuto
import Derived.Deep.RegionHeld3
namespace Go.Proofs.Ytheplbjlfkjncaa
open Go.RowKit

/-- A remainder that is brought to where it is not below nothing. -/
theorem turned (z : Int) (N : Nat) (hN : 0 < N) : ∃ (z0 : Int) (b : Nat), Int.tmod z (N : Int) = z0 ∧ -(N : Int) < z0 ∧ z0 < N ∧ b < N ∧ ((z0 < 0 ∧ z0 + N = (b : Int)) ∨ (¬ z0 < 0 ∧ z0 = (b : Int))) := by
  have h1 := Int.tmod_lt_of_pos z (b := (N : Int)) (by omega)
  have h2 := Int.lt_tmod_of_pos z (b := (N : Int)) (by omega)
  by_cases h : Int.tmod z (N : Int) < 0
  · exact ⟨_, (Int.tmod z (N : Int) + N).toNat, rfl, h2, h1, by omega, .inl ⟨h, by omega⟩⟩
  · exact ⟨_, (Int.tmod z (N : Int)).toNat, rfl, h2, h1, by omega, .inr ⟨h, by omega⟩⟩

theorem wrap_mid {z : Int} {N : Nat} (hN : N ≤ 1000000) (h1 : -(N : Int) < z) (h2 : z < N) : IntKind.i64.wrap z = z ∧ wrap64 z = z := wrap_int (by omega) (by omega)

/-- Members and rows of stripes further on. -/
theorem Gm.row_on {g : Gm} (h : g.Ok) {b a : Nat} (hs : g.stripe b + a < g.s) : g.row b + a * g.k < g.rows ∧ (g.row b + a * g.k) / g.k = g.stripe b + a := by
  have hk : 0 < g.k := by have := h.k; omega
  obtain ⟨h1, _⟩ := row_at h b
  have e : (g.row b + a * g.k) / g.k = g.stripe b + a := by rw [Nat.add_mul_div_right _ _ hk, h1]
  refine ⟨?_, e⟩
  unfold rows
  rw [← e] at hs
  exact (Nat.div_lt_iff_lt_mul hk).1 hs

set_option maxHeartbeats 4000000 in
set_option maxRecDepth 100000 in
theorem geomBack_walk (a0 a1 a2 z y x : Int) (w : World) (r0 : 0 ≤ a0 ∧ a0 ≤ 255) (r1 : 0 ≤ a1 ∧ a1 ≤ 255) (r2 : 0 ≤ a2 ∧ a2 ≤ 255) :
    Calls Try.prog 4 #[.int .u8 a0, .int .u8 a1, .int .u8 a2, .int .i64 z, .int .i64 y, .int .i64 x] w fun e w' => e = .returned (.bool true) ∧ Chg [] w w' := by
  obtain ⟨m, rfl, hm⟩ := byteNat a0 r0
  obtain ⟨c, rfl, hc⟩ := byteNat a1 r1
  obtain ⟨t, rfl, ht⟩ := byteNat a2 r2
  clear r0 r1 r2
  obtain ⟨x14, hx14⟩ : ∃ x, x = m % 14 := ⟨_, rfl⟩
  obtain ⟨x16, hx16⟩ : ∃ x, x = c % 16 := ⟨_, rfl⟩
  obtain ⟨n, hn⟩ : ∃ n, n = x14 + 3 := ⟨_, rfl⟩
  obtain ⟨k, hk⟩ : ∃ k, k = x16 + 1 := ⟨_, rfl⟩
  obtain ⟨s, hs⟩ : ∃ s, s = t + 1 := ⟨_, rfl⟩
  obtain ⟨g, hge⟩ : ∃ g : Gm, g = ⟨n, k, s⟩ := ⟨_, rfl⟩
  have hg : g.Ok := by rw [hge]; exact ⟨⟨by simp only; omega, by simp only; omega⟩, ⟨by simp only; omega, by simp only; omega⟩, ⟨by simp only; omega, by simp only; omega⟩⟩
  have gn : g.n = n := by rw [hge]
  have gk : g.k = k := by rw [hge]
  have gs : g.s = s := by rw [hge]
  have hlr := Gm.le_rows hg
  have hlb := Gm.le_blocks hg
  have hnb := hg.n
  have hkb := hg.k
  have hsb := hg.s
  have hRp : 0 < g.rows := Nat.mul_pos (by omega) (by omega)
  have hNp : 0 < g.blocks := Nat.mul_pos hRp (by omega)
  obtain ⟨z0, b, hz0, hz1, hz2, hbl, hzb⟩ := turned z g.blocks hNp
  obtain ⟨q0, r, hq0, hq1, hq2, hrl, hqr⟩ := turned x g.rows hRp
  obtain ⟨y0, mm, hy0, hy1, hy2, hml, hym⟩ := turned y n (by omega)
  -- what is called
  have BL : Hid (∀ w', Calls Try.prog 20 #[.agg #[.int .i64 (g.n : Int), .int .i64 (g.k : Int), .int .i64 (g.s : Int)]] w' (Says w' (.int .i64 (g.blocks : Int)))) := fun w' => gblocks_good g hg w'
  have RW : Hid (∀ w', Calls Try.prog 18 #[.agg #[.int .i64 (g.n : Int), .int .i64 (g.k : Int), .int .i64 (g.s : Int)]] w' (Says w' (.int .i64 (g.rows : Int)))) := fun w' => grows_good g hg w'
  have KN : Hid (∀ w', Calls Try.prog 23 #[] w' (Says w' (.bool true))) := known_any
  have O1 : Hid (∀ w', Calls Try.prog 9 #[.agg #[.int .i64 (g.n : Int), .int .i64 (g.k : Int), .int .i64 (g.s : Int)], .int .i64 (b : Int)] w' (Says w' (.tuple #[g.placeV b, .int .u16 0]))) := fun w' => gof_in g hg w' b hbl
  obtain ⟨b1, b2, b3⟩ := Gm.block_of hg b
  obtain ⟨rl, sl⟩ := Gm.row_lt hg hbl
  obtain ⟨ra, _⟩ := Gm.row_at hg b
  have A1 : Hid (∀ w', Calls Try.prog 12 #[.agg #[.int .i64 (g.n : Int), .int .i64 (g.k : Int), .int .i64 (g.s : Int)], .int .i64 (g.member b : Int), .int .i64 (g.row b : Int)] w' (Says w' (.tuple #[.int .i64 (b : Int), .bool false, .int .u16 0]))) := fun w' => by
    have h := gat_in g hg w' (g.member b) (g.row b) b3 rl b2
    rw [b1] at h
    exact h
  obtain ⟨p, hp⟩ : ∃ p, p = g.par (r / g.k) := ⟨_, rfl⟩
  have hpl : p < n := by rw [hp, ← gn]; exact Gm.par_lt (by omega) _
  have PA : Hid (∀ w', Calls Try.prog 10 #[.agg #[.int .i64 (g.n : Int), .int .i64 (g.k : Int), .int .i64 (g.s : Int)], .int .i64 (r : Int)] w' (Says w' (.tuple #[.int .i64 (p : Int), .int .u16 0]))) := fun w' => by
    rw [hp]
    exact gparity_in g hg w' r hrl
  have ME : Hid (∀ w', Calls Try.prog 11 #[.agg #[.int .i64 (g.n : Int), .int .i64 (g.k : Int), .int .i64 (g.s : Int)], .int .i64 (r : Int)] w' (SaysList w' (g.list p) (.int .u16 0))) := fun w' => by
    rw [hp]
    exact gmembers_in g hg w' r hrl
  -- the place that was asked for: the parity, or a block
  have A2 : Hid ((((mm : Int) == (p : Int)) = true ∧ ∀ w', Calls Try.prog 12 #[.agg #[.int .i64 (g.n : Int), .int .i64 (g.k : Int), .int .i64 (g.s : Int)], .int .i64 (mm : Int), .int .i64 (r : Int)] w' (Says w' (.tuple #[.int .i64 0, .bool true, .int .u16 0]))) ∨
      (((mm : Int) == (p : Int)) = false ∧ ∃ X S2 : Nat, (∀ w', Calls Try.prog 12 #[.agg #[.int .i64 (g.n : Int), .int .i64 (g.k : Int), .int .i64 (g.s : Int)], .int .i64 (mm : Int), .int .i64 (r : Int)] w' (Says w' (.tuple #[.int .i64 (X : Int), .bool false, .int .u16 0]))) ∧
        ∀ w', Calls Try.prog 9 #[.agg #[.int .i64 (g.n : Int), .int .i64 (g.k : Int), .int .i64 (g.s : Int)], .int .i64 (X : Int)] w' (Says w' (.tuple #[.agg #[.int .i64 (S2 : Int), .int .i64 (r : Int), .int .i64 (mm : Int), .int .i64 (p : Int)], .int .u16 0])))) := by
    by_cases h : mm = p
    · refine .inl ⟨by rw [h]; simp, fun w' => ?_⟩
      rw [h, hp]
      exact gat_par g hg w' r hrl
    · have hne : mm ≠ g.par (r / g.k) := by rw [← hp]; exact h
      have hmg : mm < g.n := by rw [gn]; exact hml
      obtain ⟨e1, e2, e3⟩ := Gm.of_block hg hmg hne
      refine .inr ⟨beq_false_of_ne (by omega), g.block mm r, r / g.k, fun w' => gat_in g hg w' mm r hmg hrl hne, fun w' => ?_⟩
      have hq := gof_in g hg w' (g.block mm r) (Gm.block_lt hg hmg hne hrl)
      have e : g.placeV (g.block mm r) = .agg #[.int .i64 ((r / g.k : Nat) : Int), .int .i64 (r : Int), .int .i64 (mm : Int), .int .i64 (p : Int)] := by
        show placeV _ _ _ _ = _
        rw [e1, e2, e3, hp]
        rfl
      rw [e] at hq
      exact hq
  -- a member of the row
  have AL : Hid (∀ d, d < n - 1 → ∀ w', Calls Try.prog 12 #[.agg #[.int .i64 (g.n : Int), .int .i64 (g.k : Int), .int .i64 (g.s : Int)], .int .i64 (g.mem p d : Int), .int .i64 (r : Int)] w' (Says w' (.tuple #[.int .i64 (g.block (g.mem p d) r : Int), .bool false, .int .u16 0]))) := fun d hd w' => by
    have hpg : p < g.n := by rw [gn]; exact hpl
    exact gat_in g hg w' (g.mem p d) r (Gm.mem_lt (by omega) _ _) hrl (by rw [← hp]; exact Gm.mem_ne hpg (by rw [gn]; exact hd))
  have UP : Hid (∀ d, d + 1 < n - 1 → g.block (g.mem p d) r < g.block (g.mem p (d + 1)) r) := fun d hd => Gm.block_up hg hp (by rw [gn]; exact hd)
  have SZ : Hid (Gm.vec n (fun x => if x = p then 0 + 1 else 0) = Gm.vec n (g.seen p 0)) := by rw [← gn]; exact Gm.seen_zero g p
  have SN : Hid (∀ d, d < n - 1 → g.seen p d (g.mem p d) = 0 ∧ Gm.vec n (fun x => if x = g.mem p d then g.seen p d x + 1 else g.seen p d x) = Gm.vec n (g.seen p (d + 1))) := fun d hd => by
    rw [← gn]
    exact Gm.seen_next (by rw [gn]; exact hpl) (by rw [gn]; exact hd)
  have SA : Hid (∀ m, m < n → g.seen p (n - 1) m = 1) := fun m hm => by
    rw [← gn]
    exact Gm.seen_all (by rw [gn]; exact hpl) (by rw [gn]; exact hm)
  have ML : Hid (∀ d, g.mem p d < n) := fun d => by
    have := Gm.mem_lt (g := g) (by omega) p d
    rw [gn] at this
    exact this
  have LG : Hid (∀ d, d < n - 1 → (g.list p)[d]? = some (g.mem p d)) := fun d hd => list_get g p (by rw [gn]; exact hd)
  have LL : Hid ((g.list p).length = n - 1) := by show _ = _; rw [Gm.list_len, gn]
  -- stripes further on
  obtain ⟨S, hS⟩ : ∃ S, S = g.stripe b := ⟨_, rfl⟩
  obtain ⟨Rw, hRw⟩ : ∃ R, R = g.row b := ⟨_, rfl⟩
  obtain ⟨M, hM⟩ : ∃ M, M = g.member b := ⟨_, rfl⟩
  obtain ⟨P, hP⟩ : ∃ P, P = g.par S := ⟨_, rfl⟩
  obtain ⟨R1, hR1⟩ : ∃ R, R = Rw + k := ⟨_, rfl⟩
  obtain ⟨nk, hnk⟩ : ∃ R, R = n * k := ⟨_, rfl⟩
  obtain ⟨R2, hR2⟩ : ∃ R, R = Rw + nk := ⟨_, rfl⟩
  have FU : Hid (S + n < s → (∀ w', Calls Try.prog 10 #[.agg #[.int .i64 (g.n : Int), .int .i64 (g.k : Int), .int .i64 (g.s : Int)], .int .i64 (Rw : Int)] w' (Says w' (.tuple #[.int .i64 (P : Int), .int .u16 0]))) ∧
      (∀ w', Calls Try.prog 10 #[.agg #[.int .i64 (g.n : Int), .int .i64 (g.k : Int), .int .i64 (g.s : Int)], .int .i64 (R2 : Int)] w' (Says w' (.tuple #[.int .i64 (P : Int), .int .u16 0]))) ∧
      ∃ P2 : Nat, ((P : Int) == (P2 : Int)) = false ∧ (∀ w', Calls Try.prog 10 #[.agg #[.int .i64 (g.n : Int), .int .i64 (g.k : Int), .int .i64 (g.s : Int)], .int .i64 (R1 : Int)] w' (Says w' (.tuple #[.int .i64 (P2 : Int), .int .u16 0])))) := fun hlt => by
    obtain ⟨t1, t2⟩ := Gm.row_on hg (b := b) (a := n) (by rw [← hS, gs]; exact hlt)
    obtain ⟨t3, t4⟩ := Gm.row_on hg (b := b) (a := 1) (by rw [← hS, gs]; omega)
    rw [Nat.one_mul] at t3 t4
    refine ⟨fun w' => ?_, fun w' => ?_, g.par (S + 1), beq_false_of_ne ?_, fun w' => ?_⟩
    · have h := gparity_in g hg w' _ rl
      rw [ra, ← hS, ← hP, ← hRw] at h
      exact h
    · have h := gparity_in g hg w' _ t1
      have e1 : g.row b + n * g.k = R2 := by rw [hR2, hRw, hnk, gk]
      have e2 : g.par (g.stripe b + n) = P := by rw [← gn, Gm.par_add, hP, hS]
      rw [t2, e2, e1] at h
      exact h
    · have h := Gm.par_next hg S
      rw [← hP] at h
      omega
    · have h := gparity_in g hg w' _ t3
      rw [t4, ← hS, ← hRw, gk, ← hR1, ← gk] at h
      exact h
  have hPV : g.placeV b = .agg #[.int .i64 (S : Int), .int .i64 (Rw : Int), .int .i64 (M : Int), .int .i64 (P : Int)] := by rw [hP, hM, hRw, hS]; rfl
  rw [hPV] at O1
  rw [← hM, ← hRw] at A1
  obtain ⟨N, hN⟩ : ∃ N, N = g.blocks := ⟨_, rfl⟩
  obtain ⟨R, hR⟩ : ∃ R, R = g.rows := ⟨_, rfl⟩
  obtain ⟨D, hD⟩ : ∃ D, D = n - 1 := ⟨_, rfl⟩
  obtain ⟨Sn, hSn⟩ : ∃ Sn, Sn = S + n := ⟨_, rfl⟩
  have hRk : R = k * s := by rw [hR, ← gk, ← gs, Nat.mul_comm]; rfl
  have hND : N = R * D := by rw [hN, hR, hD, ← gn]; rfl
  have tS : Rw / k = S := by rw [hRw, hS, ← gk]; exact ra
  rw [← hN] at BL hz0 hz1 hz2 hzb hNp hlb hbl
  rw [← hR] at RW hq0 hq1 hq2 hqr hRp hlr hrl rl
  rw [← hRw] at rl
  rw [← hD] at AL UP SN SA LG LL
  rw [gn, gk, gs] at BL RW O1 A1 PA ME A2 AL FU
  have hnkl : nk ≤ 256 := by rw [hnk]; exact Nat.mul_le_mul (by omega : n ≤ 16) (by omega : k ≤ 16)
  rw [gn] at hnb
  rw [gk] at hkb
  rw [gs] at hsb
  have hSl : S < 256 := by rw [← hS] at sl; omega
  have x1 : (x14 : Int) + 3 = (n : Int) := by omega
  have x2 : (x16 : Int) + 1 = (k : Int) := by omega
  have x3 : (t : Int) + 1 = (s : Int) := by omega
  have x4 : (k : Int) * (s : Int) = (R : Int) := by rw [hRk, Int.natCast_mul]
  have x5 : (n : Int) - 1 = (D : Int) := by omega
  have x6 : (R : Int) * (D : Int) = (N : Int) := by rw [hND, Int.natCast_mul]
  have x7 : (S : Int) + (n : Int) = (Sn : Int) := by omega
  have x8 : (n : Int) * (k : Int) = (nk : Int) := by rw [hnk, Int.natCast_mul]
  have x9 : (Rw : Int) + (nk : Int) = (R2 : Int) := by omega
  have xa : (Rw : Int) + (k : Int) = (R1 : Int) := by omega
  have c1 : ¬ (N : Int) = 0 := by omega
  have c2 : ¬ (R : Int) = 0 := by omega
  have c3 : ¬ (n : Int) = 0 := by omega
  have c4 : ¬ (k : Int) = 0 := by omega
  have hDn : D < n := by omega
  have hD2 : 0 < D := by omega
  have hn16 : n ≤ 16 := hnb.2
  have hp2 : ¬ (p : Int) < 0 := by omega
  have hp4 : ¬ n ≤ p := by omega
  have hp1 : (p : Int) < n := by omega
  have hp0 : (0 : Int) ≤ p := Int.natCast_nonneg _
  have hp7 : ¬ (n : Int) ≤ (p : Int) := by omega
  have LT : Hid ((S + n < s ∧ (Sn : Int) < (s : Int)) ∨ (¬ S + n < s ∧ ¬ (Sn : Int) < (s : Int))) := by
    by_cases h : S + n < s
    · exact .inl ⟨h, by omega⟩
    · exact .inr ⟨h, by omega⟩
  have w_m := Lib.hid (wrap_small (x := m) (by omega))
  have w_c := Lib.hid (wrap_small (x := c) (by omega))
  have w_t := Lib.hid (wrap_small (x := t) (by omega))
  have w_x14 := Lib.hid (wrap_small (x := x14) (by omega))
  have w_x16 := Lib.hid (wrap_small (x := x16) (by omega))
  have w_n := Lib.hid (wrap_small (x := n) (by omega))
  have w_k := Lib.hid (wrap_small (x := k) (by omega))
  have w_s := Lib.hid (wrap_small (x := s) (by omega))
  have w_R := Lib.hid (wrap_small (x := R) (by omega))
  have w_D := Lib.hid (wrap_small (x := D) (by omega))
  have w_N := Lib.hid (wrap_small (x := N) (by omega))
  have w_S := Lib.hid (wrap_small (x := S) (by omega))
  have w_Sn := Lib.hid (wrap_small (x := Sn) (by omega))
  have w_nk := Lib.hid (wrap_small (x := nk) (by omega))
  have w_R1 := Lib.hid (wrap_small (x := R1) (by omega))
  have w_R2 := Lib.hid (wrap_small (x := R2) (by omega))
  have w_b := Lib.hid (wrap_small (x := b) (by omega))
  have w_r := Lib.hid (wrap_small (x := r) (by omega))
  have w_mm := Lib.hid (wrap_small (x := mm) (by omega))
  have w_z0 := Lib.hid (wrap_mid (N := N) (by omega) hz1 hz2)
  have w_q0 := Lib.hid (wrap_mid (N := R) (by omega) hq1 hq2)
  have w_y0 := Lib.hid (wrap_mid (N := n) (by omega) hy1 hy2)
  have y1 : Int.tmod (m : Int) 14 = (x14 : Int) := by rw [hx14]; rfl
  have y2 : Int.tmod (c : Int) 16 = (x16 : Int) := by rw [hx16]; rfl
  have y1' : (m : Int) % 14 = (x14 : Int) := by rw [hx14]; rfl
  have y2' : (c : Int) % 16 = (x16 : Int) := by rw [hx16]; rfl
  have y3 : Int.tdiv (Rw : Int) (k : Int) = (S : Int) := by rw [← tS]; rfl
  have mk := Lib.hid (fun w => run_make_row' (P := Try.prog) 33 3 (.int .i64 0) 8 Try.underlying33 info_gint' rfl .i64 .i64 n (by omega) (by omega) w)
  replace hpl := Lib.hid hpl
  clear hm hc ht hx14 hx16 hn hk hs hge hg gn gk gs hlr hlb hkb hsb hRp hNp hbl hrl hml b1 b2 b3 rl sl ra hp hS hRw hM hP hR1 hnk hR2 hPV hN hR hD hSn hRk hND tS hnkl hSl hz1 hz2 hq1 hq2 hy1 hy2 hnb
  generalize (m : Int) = m' at *
  generalize (c : Int) = c' at *
  generalize (t : Int) = t' at *
  generalize (x14 : Int) = x14' at *
  generalize (x16 : Int) = x16' at *
  generalize (k : Int) = k' at *
  generalize (s : Int) = s' at *
  generalize (R : Int) = R' at *
  generalize (N : Int) = N' at *
  generalize (S : Int) = S' at *
  generalize (Sn : Int) = Sn' at *
  generalize (nk : Int) = nk' at *
  generalize (R1 : Int) = R1' at *
  generalize (R2 : Int) = R2' at *
  generalize (Rw : Int) = Rw' at *
  generalize (M : Int) = M' at *
  generalize (P : Int) = P' at *
  generalize (b : Int) = b' at *
  generalize (r : Int) = r' at *
  generalize (mm : Int) = mm' at *
  have H0 : Hid (Side w (w.alloc (.cells #[.int .i64 (n : Int), .int .i64 k', .int .i64 s'] 23)) [blkT w.heap.size 23 [.int .i64 (n : Int), .int .i64 k', .int .i64 s']]) := (Side.nil (Chg.refl _ _)).box _ _
  replace hzb := Lib.hid hzb
  replace hqr := Lib.hid hqr
  replace hym := Lib.hid hym
  replace hz0 := Lib.hid hz0
  replace hq0 := Lib.hid hq0
  replace hy0 := Lib.hid hy0
  replace x7 := Lib.hid x7
  replace x8 := Lib.hid x8
  replace x9 := Lib.hid x9
  replace xa := Lib.hid xa
  obtain ⟨u1, v1⟩ := w_m.out
  obtain ⟨u2, v2⟩ := w_c.out
  obtain ⟨u3, v3⟩ := w_t.out
  obtain ⟨u4, v4⟩ := w_x14.out
  obtain ⟨u5, v5⟩ := w_x16.out
  obtain ⟨u6, v6⟩ := w_n.out
  obtain ⟨u7, v7⟩ := w_k.out
  obtain ⟨u8, v8⟩ := w_s.out
  go_enter Try.func4, Try.ntmps4
  go_wp2_with fail
  refine (BL.out _).mono ?_
  rintro e w1 ⟨rfl, C⟩
  replace H0 := Lib.hid (H0.out.quiet C.out)
  clear C BL x1 x2 x3 y1 y2 y1' y2' u1 v1 u2 v2 u3 v3 u4 v4 u5 v5 u6 v6 u7 v7 u8 v8 w_m w_c w_t w_x14 w_x16
  have e0 := (H0.out.get 0 rfl : Blk _ _ _ _).cell (j := 0) rfl
  have e1 := (H0.out.get 0 rfl : Blk _ _ _ _).cell (j := 1) rfl
  have e2 := (H0.out.get 0 rfl : Blk _ _ _ _).cell (j := 2) rfl
  go_wp2_with fail
  refine (RW.out _).mono ?_
  rintro e w2 ⟨rfl, C⟩
  replace H0 := Lib.hid (H0.out.quiet C.out)
  clear C RW e0 e1 e2
  go_wp2_with fail
  refine (KN.out _).mono ?_
  rintro e w3 ⟨rfl, C⟩
  replace H0 := Lib.hid (H0.out.quiet C.out)
  clear C KN
  have e0 := (H0.out.get 0 rfl : Blk _ _ _ _).cell (j := 0) rfl
  have e1 := (H0.out.get 0 rfl : Blk _ _ _ _).cell (j := 1) rfl
  have e2 := (H0.out.get 0 rfl : Blk _ _ _ _).cell (j := 2) rfl
  obtain ⟨u1, v1⟩ := w_R.out
  obtain ⟨u2, v2⟩ := w_D.out
  obtain ⟨u3, v3⟩ := w_N.out
  obtain ⟨u4, v4⟩ := w_z0.out
  have hz := hz0.out
  go_upto_if 88 with fail
  go_cut [16] from 88 to 91 (fun s16 wx => s16 = .int .i64 b' ∧ Hid (Side w wx [blkT w.heap.size 23 [.int .i64 (n : Int), .int .i64 k', .int .i64 s']]))
  case first =>
    clear x4 x5 x6 u1 v1 u2 v2 u3 v3 u4 v4 hz
    obtain ⟨u1, v1⟩ := w_b.out
    rcases hzb.out with ⟨h1, h2⟩ | ⟨h1, h2⟩
    · go_wp2_with fail
      go_meet
      exact ⟨rfl, H0⟩
    · replace h2 := Lib.hid h2
      go_wp2_with fail
      go_meet
      exact ⟨by rw [h2.out], H0⟩
  case rest =>
  obtain ⟨rfl, HC⟩ := hcut
  clear x4 x6 u1 v1 u2 v2 u3 v3 u4 v4 hz hzb hz0 w_z0 w_b H0 e0 e1 e2 c1
  have e0 := (HC.out.get 0 rfl : Blk _ _ _ _).cell (j := 0) rfl
  have e1 := (HC.out.get 0 rfl : Blk _ _ _ _).cell (j := 1) rfl
  have e2 := (HC.out.get 0 rfl : Blk _ _ _ _).cell (j := 2) rfl
  go_wp2_with fail
  refine (O1.out _).mono ?_
  rintro e w4 ⟨rfl, C⟩
  have H1 := Lib.hid (HC.out.quiet C.out)
  have H2 := Lib.hid ((HC.out.quiet C.out).box [.int .i64 S', .int .i64 Rw', .int .i64 M', .int .i64 P'] 28)
  clear C O1 e0 e1 e2 HC
  have e0 := (H1.out.get 0 rfl : Blk _ _ _ _).cell (j := 0) rfl
  have e1 := (H1.out.get 0 rfl : Blk _ _ _ _).cell (j := 1) rfl
  have e2 := (H1.out.get 0 rfl : Blk _ _ _ _).cell (j := 2) rfl
  have zz : w.heap.size < w4.heap.size := (H1.out.get 0 rfl : Blk _ _ _ _).lt
  go_wp2_with fail
  refine (A1.out _).mono ?_
  rintro e w5 ⟨rfl, C⟩
  replace H2 := Lib.hid (H2.out.quiet C.out)
  clear C A1 e0 e1 e2 H1 zz
  obtain ⟨B1, hB1⟩ : ∃ B1, B1 = w4.heap.size := ⟨_, rfl⟩
  rw [← hB1] at H2 ⊢
  clear hB1
  have e0 := (H2.out.get 1 rfl : Blk _ _ _ _).cell (j := 0) rfl
  have e1 := (H2.out.get 1 rfl : Blk _ _ _ _).cell (j := 1) rfl
  have e2 := (H2.out.get 1 rfl : Blk _ _ _ _).cell (j := 2) rfl
  have f0 := (H2.out.get 0 rfl : Blk _ _ _ _).cell (j := 0) rfl
  have f1 := (H2.out.get 0 rfl : Blk _ _ _ _).cell (j := 1) rfl
  obtain ⟨u1, v1⟩ := w_S.out
  go_wp2_with fail
  go_quiet (fail)
  replace H2 := Lib.hid (H2.out.quiet ((Chg.refl _ _).drewN nq))
  generalize World.drewN w5 nq = w6 at *
  clear e0 e1 e2 f0 f1 u1 v1 y3 c4 w_S
  obtain ⟨u1, v1⟩ := w_q0.out
  have hz := hq0.out
  go_upto_if 136 with fail
  go_cut [22] from 136 to 139 (fun s22 wx => s22 = .int .i64 r' ∧ Hid (Side w wx [blkT B1 28 [.int .i64 S', .int .i64 Rw', .int .i64 M', .int .i64 P'], blkT w.heap.size 23 [.int .i64 (n : Int), .int .i64 k', .int .i64 s']]))
  case first =>
    clear hz u1 v1
    obtain ⟨u1, v1⟩ := w_r.out
    rcases hqr.out with ⟨h1, h2⟩ | ⟨h1, h2⟩
    · go_wp2_with fail
      go_meet
      exact ⟨rfl, H2⟩
    · replace h2 := Lib.hid h2
      go_wp2_with fail
      go_meet
      exact ⟨by rw [h2.out], H2⟩
  case rest =>
  obtain ⟨rfl, HC⟩ := hcut
  clear u1 v1 hz hqr hq0 w_q0 w_r H2 c2
  have e0 := (HC.out.get 1 rfl : Blk _ _ _ _).cell (j := 0) rfl
  obtain ⟨u1, v1⟩ := w_y0.out
  have hz := hy0.out
  go_upto_if 145 with fail
  go_cut [23] from 145 to 149 (fun s23 wx => s23 = .int .i64 mm' ∧ Hid (Side w wx [blkT B1 28 [.int .i64 S', .int .i64 Rw', .int .i64 M', .int .i64 P'], blkT w.heap.size 23 [.int .i64 (n : Int), .int .i64 k', .int .i64 s']]))
  case first =>
    clear hz u1 v1
    obtain ⟨u1, v1⟩ := w_mm.out
    rcases hym.out with ⟨h1, h2⟩ | ⟨h1, h2⟩
    · go_wp2_with fail
      go_meet
      exact ⟨rfl, HC⟩
    · replace h2 := Lib.hid h2
      go_wp2_with fail
      go_meet
      exact ⟨by rw [h2.out], HC⟩
  case rest =>
  clear HC
  obtain ⟨rfl, HC⟩ := hcut
  clear u1 v1 hz hym hy0 w_y0 w_mm c3 e0
  have AX : ∃ (X' : Int) (PB : Bool), (∀ w', Calls Try.prog 12 #[.agg #[.int .i64 (n : Int), .int .i64 k', .int .i64 s'], .int .i64 mm', .int .i64 r'] w' (Says w' (.tuple #[.int .i64 X', .bool PB, .int .u16 0]))) ∧
      (((mm' == (p : Int)) = true ∧ PB = true ∧ X' = 0) ∨ ((mm' == (p : Int)) = false ∧ PB = false ∧ ∃ S2 : Int, ∀ w', Calls Try.prog 9 #[.agg #[.int .i64 (n : Int), .int .i64 k', .int .i64 s'], .int .i64 X'] w' (Says w' (.tuple #[.agg #[.int .i64 S2, .int .i64 r', .int .i64 mm', .int .i64 (p : Int)], .int .u16 0])))) := by
    rcases A2.out with ⟨h1, h2⟩ | ⟨h1, X, S2, h2, h3⟩
    · exact ⟨0, true, h2, .inl ⟨h1, rfl, rfl⟩⟩
    · exact ⟨X, false, h2, .inr ⟨h1, rfl, S2, h3⟩⟩
  obtain ⟨X', PB, AX, RX⟩ := AX
  replace AX := Lib.hid AX
  replace RX := Lib.hid RX
  clear A2
  have e0 := (HC.out.get 1 rfl : Blk _ _ _ _).cell (j := 0) rfl
  have e1 := (HC.out.get 1 rfl : Blk _ _ _ _).cell (j := 1) rfl
  have e2 := (HC.out.get 1 rfl : Blk _ _ _ _).cell (j := 2) rfl
  go_wp2_with fail
  refine (AX.out _).mono ?_
  rintro e w7 ⟨rfl, C⟩
  replace HC := Lib.hid (HC.out.quiet C.out)
  clear C AX e0 e1 e2
  have e0 := (HC.out.get 1 rfl : Blk _ _ _ _).cell (j := 0) rfl
  have e1 := (HC.out.get 1 rfl : Blk _ _ _ _).cell (j := 1) rfl
  have e2 := (HC.out.get 1 rfl : Blk _ _ _ _).cell (j := 2) rfl
  go_wp2_with fail
  refine (PA.out _).mono ?_
  rintro e w8 ⟨rfl, C⟩
  replace HC := Lib.hid (HC.out.quiet C.out)
  clear C PA e0 e1 e2
  go_upto_region 21 with fail
  go_cut [183] from 164 to 182 (fun s183 wx => s183 = .bool false ∧ wx = w8)
  case first =>
    rcases RX.out with ⟨h1, rfl, rfl⟩ | ⟨h1, rfl, S2, h2⟩
    · go_wp2_with fail
      go_meet
      exact ⟨rfl, rfl⟩
    · replace h2 := Lib.hid h2
      go_wp2_with fail
      go_meet
      exact ⟨rfl, rfl⟩
  case rest =>
  obtain ⟨rfl, rfl⟩ := hcut
  go_upto_if 185 with fail
  go_cut [29, 30] from 185 to 211 (fun s29 s30 wx => Hid (Side w wx [blkT B1 28 [.int .i64 S', .int .i64 Rw', .int .i64 M', .int .i64 P'], blkT w.heap.size 23 [.int .i64 (n : Int), .int .i64 k', .int .i64 s']]))
  case first =>
    rcases RX.out with ⟨h1, rfl, rfl⟩ | ⟨h1, rfl, S2, h2⟩
    · go_wp2_with fail
      go_meet
      exact HC
    · replace h2 := Lib.hid h2
      have e0 := (HC.out.get 1 rfl : Blk _ _ _ _).cell (j := 0) rfl
      have e1 := (HC.out.get 1 rfl : Blk _ _ _ _).cell (j := 1) rfl
      have e2 := (HC.out.get 1 rfl : Blk _ _ _ _).cell (j := 2) rfl
      go_wp2_with fail
      refine (h2.out _).mono ?_
      rintro e wd ⟨rfl, C⟩
      have HD := Lib.hid (HC.out.quiet C.out)
      have HF : Hid (Side w (wd.alloc (.cells #[.int .i64 S2, .int .i64 r', .int .i64 mm', .int .i64 (p : Int)] 28)) [blkT B1 28 [.int .i64 S', .int .i64 Rw', .int .i64 M', .int .i64 P'], blkT w.heap.size 23 [.int .i64 (n : Int), .int .i64 k', .int .i64 s']]) := HD.out.quiet ((Chg.refl _ _).alloc _)
      clear C e0 e1 e2 h2
      go_wp2_with fail
      go_meet
      exact HF
  case rest =>
  clear HC RX
  have HC := hcut
  clear hcut
  have e0 := (HC.out.get 1 rfl : Blk _ _ _ _).cell (j := 0) rfl
  have e1 := (HC.out.get 1 rfl : Blk _ _ _ _).cell (j := 1) rfl
  have e2 := (HC.out.get 1 rfl : Blk _ _ _ _).cell (j := 2) rfl
  go_wp2_with fail
  refine (ME.out _).mono ?_
  rintro e w9 ⟨u, rfl, O, C⟩
  clear ME e0 e1 e2
  obtain ⟨lo, lc, rfl⟩ := owns_slice O.out
  rw [LL.out] at O ⊢
  obtain ⟨L, rfl⟩ := owns_head O.out hD2
  replace HC : Hid (Side w w9 [ownT 3 (.slice (some ⟨L, 0, none⟩) D lc) (i64s (g.list p)), blkT B1 28 [.int .i64 S', .int .i64 Rw', .int .i64 M', .int .i64 P'], blkT w.heap.size 23 [.int .i64 (n : Int), .int .i64 k', .int .i64 s']]) := HC.out.own O.out C.out
  clear O C
  have e0 := (HC.out.get 2 rfl : Blk _ _ _ _).cell (j := 0) rfl
  have e1 := (HC.out.get 2 rfl : Blk _ _ _ _).cell (j := 1) rfl
  have e2 := (HC.out.get 2 rfl : Blk _ _ _ _).cell (j := 2) rfl
  have hp5 : decide ((p : Int) < 0) = false := decide_eq_false (Int.not_lt.2 hp0)
  have hp6 : decide (n ≤ p) = false := decide_eq_false hp4
  have hp8 : decide ((n : Int) ≤ (p : Int)) = false := decide_eq_false (Int.not_le.2 hp1)
  have mk1 := mk.out
  obtain ⟨u1, v1⟩ := w_n.out
  go_upto_region 31 with fail
  have HA : Hid (Side w (w9.alloc (.cells (madeCells #[.int .i64 0] n) 3)) [blkT w9.heap.size 3 (i64s (Gm.vec n (fun _ => 0))), ownT 3 (.slice (some ⟨L, 0, none⟩) D lc) (i64s (g.list p)), blkT B1 28 [.int .i64 S', .int .i64 Rw', .int .i64 M', .int .i64 P'], blkT w.heap.size 23 [.int .i64 (n : Int), .int .i64 k', .int .i64 s']]) := by
    have h := HC.out.box (i64s (Gm.vec n (fun _ => 0))) 3
    have e3 : (i64s (Gm.vec n (fun _ => 0))).toArray = madeCells #[.int .i64 0] n := by rw [← i64s_none, Array.toArray_toList]
    rw [e3] at h
    exact h
  obtain ⟨BA, hBA⟩ : ∃ B, B = w9.heap.size := ⟨_, rfl⟩
  rw [← hBA] at HA ⊢
  clear hBA HC e0 e1 e2 mk1 mk u1 v1
  generalize w9.alloc (.cells (madeCells #[.int .i64 0] n) 3) = wa at *
  have PU := Lib.hid (i64s_up (f := fun _ => 0) (h := g.seen p 0) (m := p) (y := 1) SZ.out rfl)
  have p0 := (HA.out.get 0 rfl : Blk _ _ _ _).cell (i64s_get (Gm.vec_get (fun _ => 0) hpl.out))
  have f0 := (HA.out.get 0 rfl : Blk _ _ _ _).free p
  replace p0 : wa.cell? ⟨BA, p, none⟩ = some (.int .i64 0) := p0
  have HB := Lib.hid (HA.out.setB 0 rfl p (.int .i64 1))
  replace HB : Hid (Side w (wa.setCell ⟨BA, p, none⟩ (.int .i64 1)) [blkT BA 3 (i64s (Gm.vec n (g.seen p 0))), ownT 3 (.slice (some ⟨L, 0, none⟩) D lc) (i64s (g.list p)), blkT B1 28 [.int .i64 S', .int .i64 Rw', .int .i64 M', .int .i64 P'], blkT w.heap.size 23 [.int .i64 (n : Int), .int .i64 k', .int .i64 s']]) := by
    have h := HB.out
    have e : (i64s (Gm.vec n (fun _ => 0))).set p (.int .i64 1) = i64s (Gm.vec n (g.seen p 0)) := PU.out
    rw [e] at h
    exact h
  clear HA PU SZ
  go_wp2_with fail
  clear p0 f0 hp5 hp6 hp8
  generalize wa.setCell ⟨BA, p, none⟩ (.int .i64 1) = wb at *
  go_loopw [34] (fun i wr => ∃ d : Nat, d ≤ D ∧ i = .int .i64 (d : Int) ∧ Hid (Side w wr [blkT BA 3 (i64s (Gm.vec n (g.seen p d))), ownT 3 (.slice (some ⟨L, 0, none⟩) D lc) (i64s (g.list p)), blkT B1 28 [.int .i64 S', .int .i64 Rw', .int .i64 M', .int .i64 P'], blkT w.heap.size 23 [.int .i64 (n : Int), .int .i64 k', .int .i64 s']])) (fun i _ => D - (intOf i).toNat)
  case atStart => exact ⟨0, Nat.zero_le _, rfl, HB⟩
  case round =>
    obtain ⟨d, hd, rfl, H⟩ := hrel
    clear HB
    have hd0 : (0 : Int) ≤ d := Int.natCast_nonneg _
    by_cases hlt2 : d < D
    · have hd1 : (d : Int) < D := by omega
      obtain ⟨M2, hM⟩ : ∃ M, M = g.mem p d := ⟨_, rfl⟩
      have hMn : M2 < n := by rw [hM]; exact ML.out d
      have hM0 : (0 : Int) ≤ M2 := Int.natCast_nonneg _
      have hM1 : (M2 : Int) < n := by omega
      have hM2 : ¬ (M2 : Int) < 0 := by omega
      have hM4 : ¬ n ≤ M2 := by omega
      have hM5 : decide ((M2 : Int) < 0) = false := decide_eq_false hM2
      have hM6 : decide (n ≤ M2) = false := decide_eq_false hM4
      have hM7 : decide ((n : Int) ≤ (M2 : Int)) = false := decide_eq_false (by omega)
      obtain ⟨d1, hd1e⟩ : ∃ d1, d1 = d + 1 := ⟨_, rfl⟩
      have xd : (d : Int) + 1 = (d1 : Int) := by omega
      have w_d1 := Lib.hid (wrap_small (x := d1) (by omega))
      have HM : Hid (d1 ≤ D ∧ D - d1 < D - d) := by show _ ∧ _; omega
      -- the round before
      have BF : Hid ((decide ((0 : Int) < (d : Int)) = false ∧ decide (0 < d) = false ∧ ¬ 0 < d) ∨ ((decide ((0 : Int) < (d : Int)) = true ∧ decide (0 < d) = true ∧ 0 < d) ∧ ∃ d0 : Nat, d = d0 + 1 ∧ (d : Int) - 1 = (d0 : Int) ∧ d0 < D ∧ decide ((g.block (g.mem p d) r : Int) ≤ (g.block (g.mem p d0) r : Int)) = false)) := by
        cases d with
        | zero => exact .inl ⟨rfl, rfl, Nat.lt_irrefl _⟩
        | succ d0 => exact .inr ⟨⟨decide_eq_true (by omega), decide_eq_true (Nat.succ_pos _), Nat.succ_pos _⟩, d0, rfl, by omega, by omega, decide_eq_false (by have := UP.out d0 hlt2; omega)⟩
      obtain ⟨s0, su⟩ := SN.out d hlt2
      rw [← hM] at s0 su
      have PU := Lib.hid (i64s_up (f := g.seen p d) (h := g.seen p (d + 1)) (m := M2) (y := 1) su (by rw [s0]))
      have gp : (i64s (Gm.vec n (g.seen p d)))[M2]? = some (.int .i64 0) := by
        have h := i64s_get (Gm.vec_get (g.seen p d) hMn)
        rw [s0] at h
        exact h
      have AD := Lib.hid (AL.out d hlt2)
      rw [← hM] at AD BF
      obtain ⟨Z, hZ⟩ : ∃ Z, Z = g.block M2 r := ⟨_, rfl⟩
      rw [← hZ] at AD BF
      have HL : Hid (∀ w' f a (x : Nat), Side w w' (blkT BA 3 (i64s (Gm.vec n f)) :: ownT 3 (.slice (some ⟨L, 0, none⟩) D lc) (i64s (g.list p)) :: a) → (i64s (g.list p))[x]? = some (.int .i64 (g.mem p x : Int)) → w'.cell? ⟨L, x, none⟩ = some (.int .i64 (g.mem p x : Int))) := fun w' f a x h gl => by
        obtain ⟨L2, hL2, l0⟩ := owns_at (h.get 1 rfl : World.ownsRow _ _ _ _ _ _ _) gl
        obtain rfl : L = L2 := by simpa using hL2
        exact l0
      have GL : Hid (∀ x, x < D → (i64s (g.list p))[x]? = some (.int .i64 (g.mem p x : Int))) := fun x hx => i64s_get (LG.out x hx)
      have l0 := HL.out _ _ _ d H.out (GL.out d hlt2)
      rw [← hM] at l0
      have e0 := (H.out.get 3 rfl : Blk _ _ _ _).cell (j := 0) rfl
      have e1 := (H.out.get 3 rfl : Blk _ _ _ _).cell (j := 1) rfl
      have e2 := (H.out.get 3 rfl : Blk _ _ _ _).cell (j := 2) rfl
      replace PU := Lib.hid PU
      replace gp := Lib.hid gp
      replace hM := Lib.hid hM
      clear hMn s0 su hZ
      have hlt3 := Lib.hid hlt2
      clear hlt2
      go_wp2_with fail
      go_quiet (fail)
      replace H := Lib.hid (H.out.quiet ((Chg.refl _ _).drewN nq))
      generalize World.drewN wr nq = wq at *
      clear l0 e0 e1 e2 hM5 hM6 hM7
      have l0 := HL.out _ _ _ d H.out (GL.out d hlt3.out)
      rw [← hM.out] at l0
      have e0 := (H.out.get 3 rfl : Blk _ _ _ _).cell (j := 0) rfl
      have e1 := (H.out.get 3 rfl : Blk _ _ _ _).cell (j := 1) rfl
      have e2 := (H.out.get 3 rfl : Blk _ _ _ _).cell (j := 2) rfl
      have q0 := (H.out.get 0 rfl : Blk _ _ _ _).cell gp.out
      have f0 := (H.out.get 0 rfl : Blk _ _ _ _).free M2
      have H3 := Lib.hid (H.out.setB 0 rfl M2 (.int .i64 1))
      replace H3 : Hid (Side w (wq.setCell ⟨BA, M2, none⟩ (.int .i64 1)) [blkT BA 3 (i64s (Gm.vec n (g.seen p (d + 1)))), ownT 3 (.slice (some ⟨L, 0, none⟩) D lc) (i64s (g.list p)), blkT B1 28 [.int .i64 S', .int .i64 Rw', .int .i64 M', .int .i64 P'], blkT w.heap.size 23 [.int .i64 (n : Int), .int .i64 k', .int .i64 s']]) := by
        have h := H3.out
        have e : (i64s (Gm.vec n (g.seen p d))).set M2 (.int .i64 1) = i64s (Gm.vec n (g.seen p (d + 1))) := PU.out.out
        rw [e] at h
        exact h
      clear PU gp H
      go_upto_region 38 with fail
      clear l0 e0 e1 e2 q0 f0
      generalize wq.setCell ⟨BA, M2, none⟩ (.int .i64 1) = wx at *
      have K0 : Hid (∀ w', Chg [] wx w' → w'.cell? ⟨w.heap.size, 0, none⟩ = some (.int .i64 (n : Int)) ∧ w'.cell? ⟨w.heap.size, 1, none⟩ = some (.int .i64 k') ∧ w'.cell? ⟨w.heap.size, 2, none⟩ = some (.int .i64 s')) := fun w' C => by
        have q : Blk w' w.heap.size 23 [.int .i64 (n : Int), .int .i64 k', .int .i64 s'] := (H3.out.quiet C).get 3 rfl
        exact ⟨q.cell (j := 0) rfl, q.cell (j := 1) rfl, q.cell (j := 2) rfl⟩
      have KL : Hid (∀ w', Chg [] wx w' → w'.cell? ⟨L, d, none⟩ = some (.int .i64 (M2 : Int))) := fun w' C => by
        have h := HL.out _ _ _ d (H3.out.quiet C) (GL.out d hlt3.out)
        rw [← hM.out] at h
        exact h
      obtain ⟨e0, e1, e2⟩ := K0.out wx (Chg.refl _ _)
      have l0 := KL.out wx (Chg.refl _ _)
      have C1 : Hid (Chg [] wx (wx.drewN 1)) := (Chg.refl _ _).drewN 1
      go_region_held3 (fun w' : World => (w'.cell? ⟨w.heap.size, 0, none⟩ = some (.int .i64 (n : Int)) ∧ w'.cell? ⟨w.heap.size, 1, none⟩ = some (.int .i64 k') ∧ w'.cell? ⟨w.heap.size, 2, none⟩ = some (.int .i64 s')) ∧ w'.cell? ⟨L, d, none⟩ = some (.int .i64 (M2 : Int))) (first | exact ⟨⟨e0, e1, e2⟩, l0⟩ | exact ⟨K0.out _ C1.out, KL.out _ C1.out⟩) (first
        | (go_at_call 12; refine (AD.out _).mono ?_; rintro e wy ⟨rfl, C⟩; replace C1 := Lib.hid (C1.out.trans C.out); clear C))
      replace H3 := Lib.hid (H3.out.quiet C1.out)
      clear e0 e1 e2 l0 C1 K0 KL AD
      rcases BF.out with ⟨hb, hb2, hb3⟩ | ⟨⟨hb, hb2, hb3⟩, d0, hde, hdm, hdl, hcmp⟩
      · obtain ⟨ud, vd⟩ := w_d1.out
        rw [← hd1e] at H3
        clear hd1e BF
        go_wp2_with fail
        exact ⟨⟨d1, HM.out.1, rfl, H3⟩, HM.out.2⟩
      · rw [← hd1e] at H3
        clear hd1e BF hde
        have AD := Lib.hid (AL.out d0 hdl)
        have KL : Hid (∀ w', Chg [] wy w' → w'.cell? ⟨L, d0, none⟩ = some (.int .i64 (g.mem p d0 : Int))) := fun w' C => HL.out _ _ _ d0 (H3.out.quiet C) (GL.out d0 hdl)
        generalize (g.block (g.mem p d0) r : Int) = W0 at *
        generalize (g.mem p d0 : Int) = M0 at *
        generalize (Z : Int) = Z' at *
        have K0 : Hid (∀ w', Chg [] wy w' → w'.cell? ⟨w.heap.size, 0, none⟩ = some (.int .i64 (n : Int)) ∧ w'.cell? ⟨w.heap.size, 1, none⟩ = some (.int .i64 k') ∧ w'.cell? ⟨w.heap.size, 2, none⟩ = some (.int .i64 s')) := fun w' C => by
          have q : Blk w' w.heap.size 23 [.int .i64 (n : Int), .int .i64 k', .int .i64 s'] := (H3.out.quiet C).get 3 rfl
          exact ⟨q.cell (j := 0) rfl, q.cell (j := 1) rfl, q.cell (j := 2) rfl⟩
        obtain ⟨e0, e1, e2⟩ := K0.out wy (Chg.refl _ _)
        have l0 := KL.out wy (Chg.refl _ _)
        have hdl0 : (0 : Int) ≤ d0 := Int.natCast_nonneg _
        have hdl1 : (d0 : Int) < D := by omega
        have w_d0 := Lib.hid (wrap_small (x := d0) (by omega))
        have C1 : Hid (Chg [] wy (wy.drewN 1)) := (Chg.refl _ _).drewN 1
        obtain ⟨ue, ve⟩ := w_d0.out
        go_upto_region 40 with fail
        go_region_held3 (fun w' : World => (w'.cell? ⟨w.heap.size, 0, none⟩ = some (.int .i64 (n : Int)) ∧ w'.cell? ⟨w.heap.size, 1, none⟩ = some (.int .i64 k') ∧ w'.cell? ⟨w.heap.size, 2, none⟩ = some (.int .i64 s')) ∧ w'.cell? ⟨L, d0, none⟩ = some (.int .i64 M0)) (first | exact ⟨⟨e0, e1, e2⟩, l0⟩ | exact ⟨K0.out _ C1.out, KL.out _ C1.out⟩) (first
          | (go_at_call 12; refine (AD.out _).mono ?_; rintro e wz ⟨rfl, C⟩; replace C1 := Lib.hid (C1.out.trans C.out); clear C))
        replace H3 := Lib.hid (H3.out.quiet C1.out)
        clear e0 e1 e2 l0 C1 K0 KL AD ue ve hdm hb hb2 hb3
        obtain ⟨ud, vd⟩ := w_d1.out
        go_wp2_with fail
        exact ⟨⟨d1, HM.out.1, rfl, H3⟩, HM.out.2⟩
    · obtain rfl : D = d := by omega
      have hd1 : ¬ (D : Int) < D := by omega
      go_wp2_with fail
      clear AL UP SN LG LL ML
      go_loopw [41] (fun i wr => ∃ x : Nat, x ≤ n ∧ i = .int .i64 (x : Int) ∧ Hid (Side w wr [blkT BA 3 (i64s (Gm.vec n (g.seen p D))), ownT 3 (.slice (some ⟨L, 0, none⟩) D lc) (i64s (g.list p)), blkT B1 28 [.int .i64 S', .int .i64 Rw', .int .i64 M', .int .i64 P'], blkT w.heap.size 23 [.int .i64 (n : Int), .int .i64 k', .int .i64 s']])) (fun i _ => n - (intOf i).toNat)
      case atStart => exact ⟨0, Nat.zero_le _, rfl, H⟩
      case round =>
        obtain ⟨x, hx, rfl, H3⟩ := hrel
        clear H
        have hx0 : (0 : Int) ≤ x := Int.natCast_nonneg _
        by_cases hlt3 : x < n
        · have hx1 : (x : Int) < n := by omega
          obtain ⟨x1, hx1e⟩ : ∃ x1, x1 = x + 1 := ⟨_, rfl⟩
          have xd : (x : Int) + 1 = (x1 : Int) := by omega
          have w_x1 := Lib.hid (wrap_small (x := x1) (by omega))
          have HM : Hid (x1 ≤ n ∧ n - x1 < n - x) := by show _ ∧ _; omega
          have g1 : (i64s (Gm.vec n (g.seen p D)))[x]? = some (.int .i64 1) := by
            have h := i64s_get (Gm.vec_get (g.seen p D) hlt3)
            rw [SA.out x hlt3] at h
            exact h
          have p1 := (H3.out.get 0 rfl : Blk _ _ _ _).cell g1
          have e0 := (H3.out.get 3 rfl : Blk _ _ _ _).cell (j := 0) rfl
          clear g1 hx1e hlt3
          obtain ⟨ux, vx⟩ := w_x1.out
          go_wp2_with fail
          exact ⟨⟨x1, HM.out.1, rfl, H3⟩, HM.out.2⟩
        · obtain rfl : n = x := by omega
          have hx1 : ¬ (n : Int) < n := by omega
          have e0 := (H3.out.get 3 rfl : Blk _ _ _ _).cell (j := 0) rfl
          have e1 := (H3.out.get 3 rfl : Blk _ _ _ _).cell (j := 1) rfl
          have e2 := (H3.out.get 3 rfl : Blk _ _ _ _).cell (j := 2) rfl
          have q0 := (H3.out.get 2 rfl : Blk _ _ _ _).cell (j := 0) rfl
          have q1 := (H3.out.get 2 rfl : Blk _ _ _ _).cell (j := 1) rfl
          have x7 := x7.out
          obtain ⟨u1, v1⟩ := w_Sn.out
          go_upto_if 310 with fail
          rcases LT.out with ⟨h1, h2⟩ | ⟨h1, h2⟩
          · obtain ⟨F0, F1, P2, hne, F2⟩ := FU.out h1
            have hne2 : (P' != (P2 : Int)) = true := by rw [bne, hne]; rfl
            generalize (P2 : Int) = P2' at *
            replace F0 := Lib.hid F0
            replace F1 := Lib.hid F1
            replace F2 := Lib.hid F2
            clear h1 FU u1 v1 x7
            have x8 := x8.out
            have x9 := x9.out
            have xa := xa.out
            obtain ⟨u1, v1⟩ := w_nk.out
            obtain ⟨u2, v2⟩ := w_R1.out
            obtain ⟨u3, v3⟩ := w_R2.out
            go_wp2_with fail
            refine (F0.out _).mono ?_
            rintro e wp ⟨rfl, C⟩
            replace H3 := Lib.hid (H3.out.quiet C.out)
            clear C e0 e1 e2 q1
            have e0 := (H3.out.get 3 rfl : Blk _ _ _ _).cell (j := 0) rfl
            have e1 := (H3.out.get 3 rfl : Blk _ _ _ _).cell (j := 1) rfl
            have e2 := (H3.out.get 3 rfl : Blk _ _ _ _).cell (j := 2) rfl
            have q1 := (H3.out.get 2 rfl : Blk _ _ _ _).cell (j := 1) rfl
            go_wp2_with fail
            refine (F1.out _).mono ?_
            rintro e wq ⟨rfl, C⟩
            replace H3 := Lib.hid (H3.out.quiet C.out)
            clear C e0 e1 e2 q1
            have e0 := (H3.out.get 3 rfl : Blk _ _ _ _).cell (j := 0) rfl
            have e1 := (H3.out.get 3 rfl : Blk _ _ _ _).cell (j := 1) rfl
            have e2 := (H3.out.get 3 rfl : Blk _ _ _ _).cell (j := 2) rfl
            have q1 := (H3.out.get 2 rfl : Blk _ _ _ _).cell (j := 1) rfl
            go_wp2_with fail
            refine (F2.out _).mono ?_
            rintro e wr2 ⟨rfl, C⟩
            replace H3 := Lib.hid (H3.out.quiet C.out)
            clear C e0 e1 e2 q1
            go_wp2_with fail
            go_ret
            exact ⟨rfl, H3.out.chg⟩
          · clear h1
            go_wp2_with fail
            go_ret
            exact ⟨rfl, H3.out.chg⟩

end Go.Proofs.Ytheplbjlfkjncaa
