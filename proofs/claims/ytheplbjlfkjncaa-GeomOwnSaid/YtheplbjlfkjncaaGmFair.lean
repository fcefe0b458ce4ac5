/-
  GeomFair, walked. By an AI agent.
-/
import Derived.Test.YtheplbjlfkjncaaGmKnown
import Derived.Deep.OwnRows
namespace Go.Proofs.Ytheplbjlfkjncaa
open Go.RowKit

/-- A number that is read out of a byte. -/
theorem byteNat (m : Int) (h : 0 ≤ m ∧ m ≤ 255) : ∃ a : Nat, m = (a : Int) ∧ a ≤ 255 := ⟨m.toNat, by omega, by omega⟩

/-- One cell of a block that is known whole is written. -/
theorem Side.setB {w0 w : World} {ts : List Thing} {g : Nat} {e : TypeId} {vs : List Value} (h : Side w0 w ts) (i : Nat) (hi : ts[i]? = some (blkT g e vs)) (k : Nat) (u : Value) : Side w0 (w.setCell ⟨g, k, none⟩ u) (ts.set i (blkT g e (vs.set k u))) :=
  h.turnAt i hi (s := [g]) ((Chg.refl _ _).setCell (.inl (by simp)) _) (fun k hk => .inl hk) ((h.get i hi : Blk _ _ _ _).set k u) (fun k hk => .inl hk)

def i64s (l : List Nat) : List Value := (ints l).map (Value.int .i64)

theorem i64s_len (l : List Nat) : (i64s l).length = l.length := by simp [i64s, ints]

theorem i64s_get {l : List Nat} {i x : Nat} (h : l[i]? = some x) : (i64s l)[i]? = some (.int .i64 (x : Int)) := by simp [i64s, ints, h]

theorem i64s_up {n : Nat} {f h : Nat → Nat} {m y : Nat} (e : Gm.vec n (fun x => if x = m then f x + 1 else f x) = Gm.vec n h) (hy : y = f m + 1) : (i64s (Gm.vec n f)).set m (.int .i64 (y : Int)) = i64s (Gm.vec n h) := by
  rw [← e, ← Gm.vec_up, ← hy]
  unfold i64s ints
  rw [← List.map_set, ← List.map_set]

theorem i64s_none (n : Nat) : (madeCells #[Value.int .i64 0] n).toList = i64s (Gm.vec n (fun _ => 0)) := by
  rw [toList_madeCells_one, Gm.vec_zero]
  simp [i64s, ints]

theorem list_get (g : Gm) (p : Nat) {d : Nat} (h : d < g.n - 1) : (g.list p)[d]? = Option.some (g.mem p d) := by simp [Gm.list, h]

theorem Gm.list_len (g : Gm) (p : Nat) : (g.list p).length = g.n - 1 := by simp [Gm.list]

set_option maxHeartbeats 4000000 in
set_option maxRecDepth 100000 in
theorem geomFair_walk (a0 a1 a2 : Int) (w : World) (r0 : 0 ≤ a0 ∧ a0 ≤ 255) (r1 : 0 ≤ a1 ∧ a1 ≤ 255) (r2 : 0 ≤ a2 ∧ a2 ≤ 255) :
    Calls Try.prog 6 #[.int .u8 a0, .int .u8 a1, .int .u8 a2] w fun e w' => e = .returned (.bool true) ∧ Chg [] w w' := by
  obtain ⟨m, rfl, hm⟩ := byteNat a0 r0
  obtain ⟨c, rfl, hc⟩ := byteNat a1 r1
  obtain ⟨t, rfl, ht⟩ := byteNat a2 r2
  clear r0 r1 r2
  obtain ⟨x14, hx14⟩ : ∃ x, x = m % 14 := ⟨_, rfl⟩
  obtain ⟨x16, hx16⟩ : ∃ x, x = c % 16 := ⟨_, rfl⟩
  obtain ⟨fr, hfr⟩ : ∃ x, x = t % 100 := ⟨_, rfl⟩
  obtain ⟨n, hn⟩ : ∃ n, n = x14 + 3 := ⟨_, rfl⟩
  obtain ⟨k, hk⟩ : ∃ k, k = x16 + 1 := ⟨_, rfl⟩
  obtain ⟨s, hs⟩ : ∃ s, s = fr + n := ⟨_, rfl⟩
  obtain ⟨g, hge⟩ : ∃ g : Gm, g = ⟨n, k, s⟩ := ⟨_, rfl⟩
  have hg : g.Ok := by rw [hge]; exact ⟨⟨by simp only; omega, by simp only; omega⟩, ⟨by simp only; omega, by simp only; omega⟩, ⟨by simp only; omega, by simp only; omega⟩⟩
  have gn : g.n = n := by rw [hge]
  have gk : g.k = k := by rw [hge]
  have gs : g.s = s := by rw [hge]
  obtain ⟨D, hD⟩ : ∃ D, D = n - 1 := ⟨_, rfl⟩
  have KN : Hid (∀ w', Calls Try.prog 23 #[] w' (Says w' (.bool true))) := known_any
  -- a round's stripe
  have RD : Hid (∀ j, j < n → ∃ r p : Nat, (fr + j) * k = r ∧ r ≤ 1000000 ∧ p = g.par (fr + j) ∧ p < n ∧
      (∀ w', Calls Try.prog 10 #[.agg #[.int .i64 (n : Int), .int .i64 (k : Int), .int .i64 (s : Int)], .int .i64 (r : Int)] w' (Says w' (.tuple #[.int .i64 (p : Int), .int .u16 0]))) ∧
      (∀ w', Calls Try.prog 11 #[.agg #[.int .i64 (n : Int), .int .i64 (k : Int), .int .i64 (s : Int)], .int .i64 (r : Int)] w' (SaysList w' (g.list p) (.int .u16 0)))) := fun j hj => by
    have hr : (fr + j) * k < g.rows := by
      unfold Gm.rows
      rw [gs, gk]
      exact Nat.mul_lt_mul_of_pos_right (by omega) (by omega)
    have hq : (fr + j) * k / g.k = fr + j := by rw [gk]; exact Nat.mul_div_cancel _ (by omega)
    have hl := Gm.le_rows hg
    refine ⟨_, g.par (fr + j), rfl, by omega, rfl, by rw [← gn]; exact Gm.par_lt (by rw [gn]; omega) _, fun w' => ?_, fun w' => ?_⟩
    · have h := gparity_in g hg w' _ hr
      rw [hq, gn, gk, gs] at h
      exact h
    · have h := gmembers_in g hg w' _ hr
      rw [hq, gn, gk, gs] at h
      exact h
  have PN : Hid (∀ j p, j < n → p = g.par (fr + j) → Gm.vec n (fun x => if x = p then g.pars fr j x + 1 else g.pars fr j x) = Gm.vec n (g.pars fr (j + 1))) := fun j p hj hp => by
    rw [hp, ← gn]
    exact Gm.pars_next (by rw [gn]; omega) (by rw [gn]; exact hj)
  have PB : Hid (∀ j m, j ≤ n → g.pars fr j m ≤ 16) := fun j m hj => Nat.le_trans (Gm.pars_le g fr j m) (by omega)
  have PA : Hid (∀ m, g.pars fr n m = 1) := fun m => by rw [← gn]; exact Gm.pars_all (by rw [gn]; omega)
  have P0 : Hid (Gm.vec n (fun _ => 0) = Gm.vec n (g.pars fr 0)) := Gm.vec_congr (fun m _ => by unfold Gm.pars; rw [if_neg (Nat.not_lt_zero _)])
  have HN : Hid (∀ j i p, i < D → p = g.par (fr + j) → Gm.vec n (fun x => if x = g.mem p i then g.has fr j i x + 1 else g.has fr j i x) = Gm.vec n (g.has fr j (i + 1))) := fun j i p hi hp => by
    rw [hp, ← gn]
    exact Gm.has_next (by rw [gn]; omega)
  have HS : Hid (∀ j, j < n → Gm.vec n (g.has fr j D) = Gm.vec n (g.has fr (j + 1) 0)) := fun j hj => by
    rw [hD, ← gn]
    exact Gm.has_stripe (by rw [gn]; omega) (by rw [gn]; exact hj)
  have HB : Hid (∀ j i m, j ≤ n → g.has fr j i m ≤ 17) := fun j i m hj => by
    unfold Gm.has
    show _ ≤ _
    split <;> omega
  have HA : Hid (∀ m, g.has fr n 0 m = D) := fun m => by rw [hD, ← gn]; exact Gm.has_all (by rw [gn]; omega)
  have H00 : Hid (Gm.vec n (fun _ => 0) = Gm.vec n (g.has fr 0 0)) := Gm.vec_congr (fun m _ => by unfold Gm.has; rw [if_neg (Nat.not_lt_zero _)]; omega)
  have ML : Hid (∀ p i, g.mem p i < n) := fun p i => by
    have := Gm.mem_lt (g := g) (by rw [gn]; omega) p i
    rw [gn] at this
    exact this
  have LG : Hid (∀ p d, d < D → (g.list p)[d]? = some (g.mem p d)) := fun p d hd => list_get g p (by rw [gn, ← hD]; exact hd)
  have LL : Hid (∀ p, (g.list p).length = D) := fun p => by rw [Gm.list_len, gn, hD]
  have x1 : (x14 : Int) + 3 = (n : Int) := by omega
  have x2 : (x16 : Int) + 1 = (k : Int) := by omega
  have x3 : (fr : Int) + (n : Int) = (s : Int) := by omega
  have x4 : (n : Int) - 1 = (D : Int) := by omega
  have hn16 : n ≤ 16 := by omega
  have hn3 : 3 ≤ n := by omega
  have hDn : D < n := by omega
  have hD2 : 0 < D := by omega
  have hs2 : s ≤ 200 := by omega
  have hsf : s = fr + n := hs
  have l1 : x14 ≤ 1000000 := by omega
  have l2 : x16 ≤ 1000000 := by omega
  have l3 : fr ≤ 1000000 := by omega
  have l4 : n ≤ 1000000 := by omega
  have l5 : k ≤ 1000000 := by omega
  have l6 : s ≤ 1000000 := by omega
  have l7 : D ≤ 1000000 := by omega
  have l8 : m ≤ 1000000 := by omega
  have l9 : c ≤ 1000000 := by omega
  have la : t ≤ 1000000 := by omega
  have y1 : Int.tmod (m : Int) 14 = (x14 : Int) := by rw [hx14]; rfl
  have y2 : Int.tmod (c : Int) 16 = (x16 : Int) := by rw [hx16]; rfl
  have y3 : Int.tmod (t : Int) 100 = (fr : Int) := by rw [hfr]; rfl
  have y1' : (m : Int) % 14 = (x14 : Int) := by rw [hx14]; rfl
  have y2' : (c : Int) % 16 = (x16 : Int) := by rw [hx16]; rfl
  have y3' : (t : Int) % 100 = (fr : Int) := by rw [hfr]; rfl
  have mk := fun w => run_make_row' (P := Try.prog) 33 3 (.int .i64 0) 8 Try.underlying33 info_gint' rfl .i64 .i64 n (by omega) (by omega) w
  have H0 : Hid (Side w (((w.alloc (.cells #[.int .i64 (n : Int), .int .i64 (k : Int), .int .i64 (s : Int)] 23)).alloc (.cells (madeCells #[.int .i64 0] n) 3)).alloc (.cells (madeCells #[.int .i64 0] n) 3))
      [blkT (w.heap.size + 2) 3 (i64s (Gm.vec n (g.pars fr 0))), blkT (w.heap.size + 1) 3 (i64s (Gm.vec n (g.has fr 0 0))), blkT w.heap.size 23 [.int .i64 (n : Int), .int .i64 (k : Int), .int .i64 (s : Int)]]) := by
    have e3 : (i64s (Gm.vec n (g.has fr 0 0))).toArray = madeCells #[.int .i64 0] n := by rw [← H00.out, ← i64s_none, Array.toArray_toList]
    have e4 : (i64s (Gm.vec n (g.pars fr 0))).toArray = madeCells #[.int .i64 0] n := by rw [← P0.out, ← i64s_none, Array.toArray_toList]
    have h := (((Side.nil (Chg.refl [] w)).box [.int .i64 (n : Int), .int .i64 (k : Int), .int .i64 (s : Int)] 23).box (i64s (Gm.vec n (g.has fr 0 0))) 3).box (i64s (Gm.vec n (g.pars fr 0))) 3
    rw [e3, e4] at h
    have s1 : (w.alloc (.cells #[.int .i64 (n : Int), .int .i64 (k : Int), .int .i64 (s : Int)] 23)).heap.size = w.heap.size + 1 := by simp
    have s2 : ((w.alloc (.cells #[.int .i64 (n : Int), .int .i64 (k : Int), .int .i64 (s : Int)] 23)).alloc (.cells (madeCells #[.int .i64 0] n) 3)).heap.size = w.heap.size + 2 := by simp
    rw [s2, s1] at h
    exact h
  clear hn hk hs hx14 hx16 hfr hge hg gn gk gs hm hc ht hD
  have u1 := wrap_small l1
  have u2 := wrap_small l2
  have u3 := wrap_small l3
  have u4 := wrap_small l4
  have u5 := wrap_small l5
  have u6 := wrap_small l6
  have u7 := wrap_small l7
  have u8 := wrap_small l8
  have u9 := wrap_small l9
  have ua := wrap_small la
  have w_s := Lib.hid u6
  have w_D := Lib.hid u7
  clear l1 l2 l3 l4 l5 l6 l7 l8 l9 la u7
  obtain ⟨u1, v1⟩ := u1
  obtain ⟨u2, v2⟩ := u2
  obtain ⟨u3, v3⟩ := u3
  obtain ⟨u4, v4⟩ := u4
  obtain ⟨u5, v5⟩ := u5
  obtain ⟨u6, v6⟩ := u6
  obtain ⟨u8, v8⟩ := u8
  obtain ⟨u9, v9⟩ := u9
  obtain ⟨ua, va⟩ := ua
  replace hsf := Lib.hid hsf
  go_enter Try.func6, Try.ntmps6
  go_wp2_with fail
  obtain ⟨B1, hB1⟩ : ∃ B, B = w.heap.size + 1 := ⟨_, rfl⟩
  obtain ⟨B2, hB2⟩ : ∃ B, B = w.heap.size + 2 := ⟨_, rfl⟩
  rw [← hB1, ← hB2] at H0
  rw [show w.heap.size + 1 + 1 = B2 from hB2.symm, ← hB1]
  clear hB1 hB2
  generalize ((w.alloc (.cells #[.int .i64 (n : Int), .int .i64 (k : Int), .int .i64 (s : Int)] 23)).alloc (.cells (madeCells #[.int .i64 0] n) 3)).alloc (.cells (madeCells #[.int .i64 0] n) 3) = W at *
  clear mk x1 x2 y1 y2 y3 y1' y2' y3' u1 v1 u2 v2 u8 v8 u9 v9 ua va P0 H00 u3 v3 u4 v4 u5 v5 u6 v6
  go_loopw [13] (fun i wr => ∃ j q : Nat, j ≤ n ∧ Hid (q = fr + j) ∧ i = .int .i64 (q : Int) ∧ Hid (Side w wr [blkT B2 3 (i64s (Gm.vec n (g.pars fr j))), blkT B1 3 (i64s (Gm.vec n (g.has fr j 0))), blkT w.heap.size 23 [.int .i64 (n : Int), .int .i64 (k : Int), .int .i64 (s : Int)]])) (fun i _ => s - (intOf i).toNat)
  case atStart => exact ⟨0, fr, Nat.zero_le _, rfl, rfl, H0⟩
  case round =>
    obtain ⟨j, q, hj, hq, rfl, H⟩ := hrel
    clear H0
    have hq0 : (0 : Int) ≤ q := Int.natCast_nonneg _
    by_cases hlt : j < n
    · have hq1 : (q : Int) < s := by have h1 := hq.out; have h2 := hsf.out; omega
      obtain ⟨r, p, hr, lr, hp, hpn, PC, MC⟩ := RD.out j hlt
      rw [← hq.out] at hr
      have xr : (q : Int) * (k : Int) = (r : Int) := by rw [← hr, Int.natCast_mul]
      have hp0 : (0 : Int) ≤ p := Int.natCast_nonneg _
      have hp1 : (p : Int) < n := by omega
      have hp2 : ¬ (p : Int) < 0 := by omega
      have hp4 : ¬ n ≤ p := by omega
      have hp5 : decide ((p : Int) < 0) = false := decide_eq_false hp2
      have hp6 : decide (n ≤ p) = false := decide_eq_false hp4
      have hp7 : decide ((n : Int) ≤ (p : Int)) = false := decide_eq_false (by omega)
      obtain ⟨F, hF⟩ : ∃ F, F = g.pars fr j p := ⟨_, rfl⟩
      obtain ⟨Y, hY⟩ : ∃ Y, Y = F + 1 := ⟨_, rfl⟩
      have xy : (F : Int) + 1 = (Y : Int) := by omega
      have lY : Y ≤ 1000000 := by have := PB.out j p hj; omega
      have PU := Lib.hid (i64s_up (f := g.pars fr j) (m := p) (y := Y) (PN.out j p hlt hp) (by rw [hY, hF]))
      have gp : (i64s (Gm.vec n (g.pars fr j)))[p]? = some (.int .i64 (F : Int)) := by rw [hF]; exact i64s_get (Gm.vec_get _ hpn)
      replace hp := Lib.hid hp
      replace PC := Lib.hid PC
      replace MC := Lib.hid MC
      have w_r := Lib.hid (wrap_small lr)
      have w_Y := Lib.hid (wrap_small lY)
      have gp' := Lib.hid gp
      replace hF := Lib.hid hF
      replace hY := Lib.hid hY
      clear hr lr lY gp
      have c0 := (H.out.get 2 rfl : Blk _ _ _ _).cell (j := 0) rfl
      have c1 := (H.out.get 2 rfl : Blk _ _ _ _).cell (j := 1) rfl
      have c2 := (H.out.get 2 rfl : Blk _ _ _ _).cell (j := 2) rfl
      obtain ⟨ur, vr⟩ := w_r.out
      obtain ⟨uY, vY⟩ := w_Y.out
      obtain ⟨us, vs⟩ := w_s.out
      obtain ⟨uD, vD⟩ := w_D.out
      go_wp2_with fail
      refine (PC.out _).mono ?_
      rintro e w1 ⟨rfl, C⟩
      replace H := Lib.hid (H.out.quiet C.out)
      clear C PC c0 c1 c2
      have c0 := (H.out.get 2 rfl : Blk _ _ _ _).cell (j := 0) rfl
      have c1 := (H.out.get 2 rfl : Blk _ _ _ _).cell (j := 1) rfl
      have c2 := (H.out.get 2 rfl : Blk _ _ _ _).cell (j := 2) rfl
      go_wp2_with fail
      refine (MC.out _).mono ?_
      rintro e w2 ⟨u, rfl, O, C⟩
      clear MC c0 c1 c2
      obtain ⟨lo, lc, rfl⟩ := owns_slice O.out
      rw [LL.out p] at O ⊢
      obtain ⟨L, rfl⟩ := owns_head O.out hD2
      replace H : Hid (Side w w2 [ownT 3 (.slice (some ⟨L, 0, none⟩) D lc) (i64s (g.list p)), blkT B2 3 (i64s (Gm.vec n (g.pars fr j))), blkT B1 3 (i64s (Gm.vec n (g.has fr j 0))), blkT w.heap.size 23 [.int .i64 (n : Int), .int .i64 (k : Int), .int .i64 (s : Int)]]) := H.out.own O.out C.out
      clear O C
      have p0 := (H.out.get 1 rfl : Blk _ _ _ _).cell gp'.out
      have f0 := (H.out.get 1 rfl : Blk _ _ _ _).free p
      have HS2 := Lib.hid (H.out.setB 1 rfl p (.int .i64 (Y : Int)))
      replace HS2 : Hid (Side w (w2.setCell ⟨B2, p, none⟩ (.int .i64 (Y : Int))) [ownT 3 (.slice (some ⟨L, 0, none⟩) D lc) (i64s (g.list p)), blkT B2 3 (i64s (Gm.vec n (g.pars fr (j + 1)))), blkT B1 3 (i64s (Gm.vec n (g.has fr j 0))), blkT w.heap.size 23 [.int .i64 (n : Int), .int .i64 (k : Int), .int .i64 (s : Int)]]) := by
        have h := HS2.out
        rw [PU.out] at h
        exact h
      clear H PU gp'
      go_wp2_with fail
      clear p0 f0 xr xy ur vr uY vY us vs uD vD
      generalize w2.setCell ⟨B2, p, none⟩ (.int .i64 (Y : Int)) = w3 at *
      go_loopw [18] (fun i wr => ∃ d : Nat, d ≤ D ∧ i = .int .i64 (d : Int) ∧ Hid (Side w wr [ownT 3 (.slice (some ⟨L, 0, none⟩) D lc) (i64s (g.list p)), blkT B2 3 (i64s (Gm.vec n (g.pars fr (j + 1)))), blkT B1 3 (i64s (Gm.vec n (g.has fr j d))), blkT w.heap.size 23 [.int .i64 (n : Int), .int .i64 (k : Int), .int .i64 (s : Int)]])) (fun i _ => D - (intOf i).toNat)
      case atStart => exact ⟨0, Nat.zero_le _, rfl, HS2⟩
      case round =>
        obtain ⟨d, hd, rfl, H⟩ := hrel
        clear HS2
        have hd0 : (0 : Int) ≤ d := Int.natCast_nonneg _
        by_cases hlt2 : d < D
        · have hd1 : (d : Int) < D := by omega
          obtain ⟨M, hM⟩ : ∃ M, M = g.mem p d := ⟨_, rfl⟩
          have hMn : M < n := by rw [hM]; exact ML.out p d
          have hM0 : (0 : Int) ≤ M := Int.natCast_nonneg _
          have hM1 : (M : Int) < n := by omega
          have hM2 : ¬ (M : Int) < 0 := by omega
          have hM4 : ¬ n ≤ M := by omega
          have hM5 : decide ((M : Int) < 0) = false := decide_eq_false hM2
          have hM6 : decide (n ≤ M) = false := decide_eq_false hM4
          have hM7 : decide ((n : Int) ≤ (M : Int)) = false := decide_eq_false (by omega)
          obtain ⟨F2, hF2⟩ : ∃ F, F = g.has fr j d M := ⟨_, rfl⟩
          obtain ⟨Y2, hY2⟩ : ∃ Y, Y = F2 + 1 := ⟨_, rfl⟩
          have xy : (F2 : Int) + 1 = (Y2 : Int) := by omega
          have lY : Y2 ≤ 1000000 := by have := HB.out j d M hj; omega
          have hM' : M = g.mem p d := hM
          have PU := Lib.hid (i64s_up (f := g.has fr j d) (h := g.has fr j (d + 1)) (m := M) (y := Y2) (by rw [hM']; exact HN.out j d p hlt2 hp.out) (by rw [hY2, hF2]))
          have gp : (i64s (Gm.vec n (g.has fr j d)))[M]? = some (.int .i64 (F2 : Int)) := by rw [hF2]; exact i64s_get (Gm.vec_get _ hMn)
          have gl : (i64s (g.list p))[d]? = some (.int .i64 (M : Int)) := by rw [hM]; exact i64s_get (LG.out p d hlt2)
          have w_Y2 := Lib.hid (wrap_small lY)
          obtain ⟨d1, hd1e⟩ : ∃ d1, d1 = d + 1 := ⟨_, rfl⟩
          have xd : (d : Int) + 1 = (d1 : Int) := by omega
          have w_d1 := Lib.hid (wrap_small (x := d1) (by omega))
          have HM : Hid (d1 ≤ D ∧ D - d1 < D - d) := by show _ ∧ _; omega
          obtain ⟨L2, hL2, l0⟩ := owns_at (H.out.get 0 rfl : World.ownsRow _ _ _ _ _ _ _) gl
          obtain rfl : L = L2 := by simpa using hL2
          have p0 := (H.out.get 2 rfl : Blk _ _ _ _).cell gp
          have f0 := (H.out.get 2 rfl : Blk _ _ _ _).free M
          have H3 := Lib.hid (H.out.setB 2 rfl M (.int .i64 (Y2 : Int)))
          replace H3 : Hid (Side w (wr.setCell ⟨B1, M, none⟩ (.int .i64 (Y2 : Int))) [ownT 3 (.slice (some ⟨L, 0, none⟩) D lc) (i64s (g.list p)), blkT B2 3 (i64s (Gm.vec n (g.pars fr (j + 1)))), blkT B1 3 (i64s (Gm.vec n (g.has fr j (d + 1)))), blkT w.heap.size 23 [.int .i64 (n : Int), .int .i64 (k : Int), .int .i64 (s : Int)]]) := by
            have h := H3.out
            rw [PU.out] at h
            exact h
          rw [← hd1e] at H3
          clear H PU gp gl hL2 hM hM' hF2 hY2 hMn lY hd1e
          obtain ⟨uY, vY⟩ := w_Y2.out
          obtain ⟨ud, vd⟩ := w_d1.out
          go_wp2_with fail
          exact ⟨⟨d1, HM.out.1, rfl, H3⟩, HM.out.2⟩
        · obtain rfl : D = d := by omega
          have hd1 : ¬ (D : Int) < D := by omega
          have HN2 := Lib.hid H.out.tail
          rw [HS.out j hlt] at HN2
          clear H
          obtain ⟨q1, hq1e⟩ : ∃ q1, q1 = q + 1 := ⟨_, rfl⟩
          have xq : (q : Int) + 1 = (q1 : Int) := by omega
          have lq : q1 ≤ 1000000 := by have h1 := hq.out; have h2 := hsf.out; omega
          have HQ : Hid (q1 = fr + (j + 1)) := by have := hq.out; show _ = _; omega
          have HM : Hid (s - (q1 : Int).toNat < s - (q : Int).toNat) := by have h1 := hq.out; have h2 := hsf.out; show _ < _; omega
          have w_q := Lib.hid (wrap_small lq)
          clear lq hq1e
          obtain ⟨uq, vq⟩ := w_q.out
          go_wp2_with fail
          exact ⟨⟨j + 1, q1, by omega, HQ, rfl, HN2⟩, HM.out⟩
    · obtain rfl : n = j := by omega
      have hq1 : ¬ (q : Int) < s := by have h1 := hq.out; have h2 := hsf.out; omega
      obtain ⟨us, vs⟩ := w_s.out
      go_wp2_with fail
      clear us vs
      have hx : n ≤ n := Nat.le_refl n
      go_loopw [19] (fun i wr => ∃ x : Nat, x ≤ n ∧ i = .int .i64 (x : Int) ∧ Hid (Side w wr [blkT B2 3 (i64s (Gm.vec n (g.pars fr n))), blkT B1 3 (i64s (Gm.vec n (g.has fr n 0))), blkT w.heap.size 23 [.int .i64 (n : Int), .int .i64 (k : Int), .int .i64 (s : Int)]])) (fun i _ => n - (intOf i).toNat)
      case atStart => exact ⟨0, Nat.zero_le _, rfl, H⟩
      case round =>
        obtain ⟨x, hx, rfl, H3⟩ := hrel
        clear H
        have hx0 : (0 : Int) ≤ x := Int.natCast_nonneg _
        by_cases hlt3 : x < n
        · have hx1 : (x : Int) < n := by omega
          obtain ⟨x1, hx1e⟩ : ∃ x1, x1 = x + 1 := ⟨_, rfl⟩
          have xd : (x : Int) + 1 = (x1 : Int) := by omega
          have w_x1 := Lib.hid (wrap_small (x := x1) (by omega))
          have HM : Hid (x1 ≤ n ∧ n - x1 < n - x) := by show _ ∧ _; omega
          have g1 : (i64s (Gm.vec n (g.pars fr n)))[x]? = some (.int .i64 1) := by
            have h := i64s_get (Gm.vec_get (g.pars fr n) hlt3)
            rw [PA.out x] at h
            exact h
          have g2 : (i64s (Gm.vec n (g.has fr n 0)))[x]? = some (.int .i64 (D : Int)) := by
            have h := i64s_get (Gm.vec_get (g.has fr n 0) hlt3)
            rw [HA.out x] at h
            exact h
          have p1 := (H3.out.get 0 rfl : Blk _ _ _ _).cell g1
          have p2 := (H3.out.get 1 rfl : Blk _ _ _ _).cell g2
          clear g1 g2 hx1e hlt3
          obtain ⟨ux, vx⟩ := w_x1.out
          obtain ⟨uD, vD⟩ := w_D.out
          go_wp2_with fail
          exact ⟨⟨x1, HM.out.1, rfl, H3⟩, HM.out.2⟩
        · obtain rfl : n = x := by omega
          have hx1 : ¬ (n : Int) < n := by omega
          go_wp2_with fail
          refine (KN.out _).mono ?_
          rintro e w4 ⟨rfl, C⟩
          have CF := Lib.hid (H3.out.chg.trans C.out)
          clear C
          go_wp2_with fail
          go_ret
          exact ⟨rfl, CF.out⟩

end Go.Proofs.Ytheplbjlfkjncaa
