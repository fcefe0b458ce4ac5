/-
  The program's layout of blocks: a block's place, a place's block. By an AI agent.
-/
import Derived.Test.YtheplbjlfkjncaaGmLay
import Derived.Test.YtheplbjlfkjncaaGSide
namespace Go.Proofs.Ytheplbjlfkjncaa
open Go.RowKit

theorem info_place : (Try.prog.info? 28).map (·.size) = some 4 := by kernel_rfl

section
variable (g : Gm) (hg : g.Ok) (w : World)
include hg

set_option maxHeartbeats 2000000 in
set_option maxRecDepth 100000 in
theorem lplace (b : Nat) (hb : b < g.blocks) : Calls Try.prog 29 #[.agg #[.int .i64 (g.n : Int), .int .i64 (g.k : Int), .int .i64 (g.s : Int)], .int .i64 (b : Int)] w (Says w (g.placeV b)) := by
  obtain ⟨W, hW⟩ : ∃ W, W = (w.alloc (.cells #[.int .i64 (g.n : Int), .int .i64 (g.k : Int), .int .i64 (g.s : Int)] 72)).alloc (.cells #[.int .i64 0, .int .i64 0, .int .i64 0, .int .i64 0] 28) := ⟨_, rfl⟩
  have L := lay_box (g.n : Int) (g.k : Int) (g.s : Int) w
  have CA : Hid (Chg [] w W) := by rw [hW]; exact L.1.out.alloc _
  have BP : Blk W (w.heap.size + 1) 28 [.int .i64 0, .int .i64 0, .int .i64 0, .int .i64 0] := by rw [hW]; exact heap_alloc2_new _ _ _
  have K0 : Hid (∀ w', Chg [] W w' → w'.cell? ⟨w.heap.size, 0, none⟩ = some (.int .i64 (g.n : Int)) ∧ w'.cell? ⟨w.heap.size, 1, none⟩ = some (.int .i64 (g.k : Int)) ∧ w'.cell? ⟨w.heap.size, 2, none⟩ = some (.int .i64 (g.s : Int))) := fun w' C => L.2.out w' (((Chg.refl _ _).alloc _).trans (by rw [hW] at C; exact C))
  have KP : Hid (∀ w', Chg [] W w' → Blk w' (w.heap.size + 1) 28 [.int .i64 0, .int .i64 0, .int .i64 0, .int .i64 0]) := fun w' C => BP.chg C (by simp)
  have KS : Hid (∀ w' (a b c d : Value), Chg [] W w' → (((((w'.setCell ⟨w.heap.size + 1, 0, none⟩ a).setCell ⟨w.heap.size + 1, 1, none⟩ b).setCell ⟨w.heap.size + 1, 2, none⟩ c).setCell ⟨w.heap.size + 1, 3, none⟩ d).cell? ⟨w.heap.size, 0, none⟩ = some (.int .i64 (g.n : Int)) ∧ ((((w'.setCell ⟨w.heap.size + 1, 0, none⟩ a).setCell ⟨w.heap.size + 1, 1, none⟩ b).setCell ⟨w.heap.size + 1, 2, none⟩ c).setCell ⟨w.heap.size + 1, 3, none⟩ d).cell? ⟨w.heap.size, 1, none⟩ = some (.int .i64 (g.k : Int)) ∧ ((((w'.setCell ⟨w.heap.size + 1, 0, none⟩ a).setCell ⟨w.heap.size + 1, 1, none⟩ b).setCell ⟨w.heap.size + 1, 2, none⟩ c).setCell ⟨w.heap.size + 1, 3, none⟩ d).cell? ⟨w.heap.size, 2, none⟩ = some (.int .i64 (g.s : Int))) ∧
      Chg [] w ((((w'.setCell ⟨w.heap.size + 1, 0, none⟩ a).setCell ⟨w.heap.size + 1, 1, none⟩ b).setCell ⟨w.heap.size + 1, 2, none⟩ c).setCell ⟨w.heap.size + 1, 3, none⟩ d) ∧ Blk ((((w'.setCell ⟨w.heap.size + 1, 0, none⟩ a).setCell ⟨w.heap.size + 1, 1, none⟩ b).setCell ⟨w.heap.size + 1, 2, none⟩ c).setCell ⟨w.heap.size + 1, 3, none⟩ d) (w.heap.size + 1) 28 [a, b, c, d]) := fun w' a b c d C => by
    have hne : ∀ j i, (⟨w.heap.size + 1, j, none⟩ : Addr) ≠ ⟨w.heap.size, i, none⟩ := fun j i e => by
      have := (Addr.mk.inj e).1
      omega
    obtain ⟨k0, k1, k2⟩ := K0.out w' C
    refine ⟨⟨?_, ?_, ?_⟩, ?_, ?_⟩
    · rw [World.cell?_setCell_other _ _ _ _ (hne _ _), World.cell?_setCell_other _ _ _ _ (hne _ _), World.cell?_setCell_other _ _ _ _ (hne _ _), World.cell?_setCell_other _ _ _ _ (hne _ _), k0]
    · rw [World.cell?_setCell_other _ _ _ _ (hne _ _), World.cell?_setCell_other _ _ _ _ (hne _ _), World.cell?_setCell_other _ _ _ _ (hne _ _), World.cell?_setCell_other _ _ _ _ (hne _ _), k1]
    · rw [World.cell?_setCell_other _ _ _ _ (hne _ _), World.cell?_setCell_other _ _ _ _ (hne _ _), World.cell?_setCell_other _ _ _ _ (hne _ _), World.cell?_setCell_other _ _ _ _ (hne _ _), k2]
    · exact ((((CA.out.trans C).setCell (.inr (Nat.le_succ _)) _).setCell (.inr (Nat.le_succ _)) _).setCell (.inr (Nat.le_succ _)) _).setCell (.inr (Nat.le_succ _)) _
    · exact ((((KP.out w' C).set 0 a).set 1 b).set 2 c).set 3 d
  have LE : Hid (∀ w', Calls Try.prog 47 #[.agg #[.int .i64 (g.n : Int), .int .i64 (g.k : Int), .int .i64 (g.s : Int)]] w' (Says w' (.int .i64 (g.each : Int)))) := fun w' => leach g hg w'
  have hrl := Gm.row_lt hg hb
  have LP : Hid (∀ w', Calls Try.prog 31 #[.agg #[.int .i64 (g.n : Int), .int .i64 (g.k : Int), .int .i64 (g.s : Int)], .int .i64 (g.row b : Int)] w' (Says w' (.int .i64 (g.par (g.row b / g.k) : Int)))) := fun w' => lpar g hg w' _ hrl.1
  rw [(Gm.row_at hg b).1] at LP
  have hn := hg.n
  have hk := hg.k
  have hpl := Gm.par_lt (g := g) (by omega) (g.stripe b)
  have hil := Gm.in_lt hg b
  have LM : Hid (∀ w', Calls Try.prog 48 #[.agg #[.int .i64 (g.n : Int), .int .i64 (g.k : Int), .int .i64 (g.s : Int)], .int .i64 (g.par (g.stripe b) : Int), .int .i64 ((b % g.each / g.k : Nat) : Int)] w' (Says w' (.int .i64 (g.member b : Int)))) := fun w' => lmem g hg w' _ _ hpl (by omega)
  have hep := Gm.each_pos hg
  have hle := Gm.le_blocks hg
  have hlr := Gm.le_rows hg
  obtain ⟨S, hS⟩ : ∃ S, S = g.stripe b := ⟨_, rfl⟩
  obtain ⟨I, hI⟩ : ∃ I, I = b % g.each := ⟨_, rfl⟩
  obtain ⟨U, hU⟩ : ∃ U, U = S * g.k := ⟨_, rfl⟩
  obtain ⟨X, hX⟩ : ∃ X, X = I % g.k := ⟨_, rfl⟩
  obtain ⟨R, hR⟩ : ∃ R, R = g.row b := ⟨_, rfl⟩
  obtain ⟨P, hP⟩ : ∃ P, P = g.par S := ⟨_, rfl⟩
  obtain ⟨D, hD⟩ : ∃ D, D = I / g.k := ⟨_, rfl⟩
  obtain ⟨M, hM⟩ : ∃ M, M = g.member b := ⟨_, rfl⟩
  have hRU : R = U + X := by rw [hR, hU, hX, hI, hS]; rfl
  have PV : Hid (g.placeV b = .agg #[.int .i64 (S : Int), .int .i64 (R : Int), .int .i64 (M : Int), .int .i64 (P : Int)]) := by
    show _ = _
    rw [hS, hR, hM, hP, hS]
    rfl
  rw [← hS] at LP LM hpl
  rw [← hP] at LP LM
  rw [← hI, ← hD] at LM
  rw [← hR] at LP hrl
  rw [← hM] at LM
  rw [PV.out]
  have bS : S ≤ 1000000 := by have := hg.s; rw [← hS] at hrl; omega
  have bI : I ≤ 1000000 := Nat.le_trans (by rw [hI]; exact Nat.mod_le _ _) (by omega : b ≤ 1000000)
  have bU : U ≤ 1000000 := by omega
  have bX : X ≤ 1000000 := by omega
  have bR : R ≤ 1000000 := by omega
  have bD : D ≤ 1000000 := Nat.le_trans (by rw [hD]; exact Nat.div_le_self _ _) bI
  have E0 : ¬ (g.each : Int) = 0 := by omega
  have k0 : ¬ (g.k : Int) = 0 := by omega
  have e1 : (S : Int) * (g.k : Int) = (U : Int) := by rw [hU, Int.natCast_mul]
  have e2 : (U : Int) + (X : Int) = (R : Int) := by omega
  have d1 : Int.tdiv (b : Int) (g.each : Int) = (S : Int) := by rw [hS]; rfl
  have d2 : Int.tmod (b : Int) (g.each : Int) = (I : Int) := by rw [hI]; rfl
  have d3 : Int.tmod (I : Int) (g.k : Int) = (X : Int) := by rw [hX]; rfl
  have d4 : Int.tdiv (I : Int) (g.k : Int) = (D : Int) := by rw [hD]; rfl
  obtain ⟨w1', w2'⟩ := wrap_small bS
  obtain ⟨w3', w4'⟩ := wrap_small bI
  obtain ⟨w5', w6'⟩ := wrap_small bU
  obtain ⟨w7', w8'⟩ := wrap_small bX
  obtain ⟨w9', wa'⟩ := wrap_small bR
  obtain ⟨wb', wc'⟩ := wrap_small bD
  clear hg hrl hn hk hpl hil hep hle hlr hS hI hU hX hR hP hD hM hRU bS bI bU bX bR bD PV hb L BP
  generalize (g.each : Int) = E at *
  generalize (g.n : Int) = n at *
  generalize (g.k : Int) = k at *
  generalize (g.s : Int) = s at *
  generalize (b : Int) = b' at *
  generalize (S : Int) = S' at *
  generalize (I : Int) = I' at *
  generalize (U : Int) = U' at *
  generalize (X : Int) = X' at *
  generalize (R : Int) = R' at *
  generalize (P : Int) = P' at *
  generalize (D : Int) = D' at *
  generalize (M : Int) = M' at *
  obtain ⟨c0, c1, c2⟩ := K0.out W (Chg.refl _ _)
  go_enter Try.func29, Try.ntmps29
  go_wp2_with fail
  rw [← hW]
  clear hW
  have C1 : Hid (Chg [] W (W.drewN 1)) := (Chg.refl _ _).drewN 1
  go_region_held3 (fun w' : World => w'.cell? ⟨w.heap.size, 0, none⟩ = some (.int .i64 n) ∧ w'.cell? ⟨w.heap.size, 1, none⟩ = some (.int .i64 k) ∧ w'.cell? ⟨w.heap.size, 2, none⟩ = some (.int .i64 s)) (first | exact ⟨c0, c1, c2⟩ | exact K0.out _ C1.out) (first
    | (go_at_call 47; refine (LE.out _).mono ?_; rintro e w1 ⟨rfl, C⟩; replace C1 := Lib.hid (C1.out.trans C.out); clear C))
  clear c0 c1 c2
  obtain ⟨c0, c1, c2⟩ := K0.out _ C1.out
  go_wp2_with fail
  go_quiet (fail)
  go_wp2_with fail
  refine (LP.out _).mono ?_
  rintro e w3 ⟨rfl, C⟩
  replace C1 : Hid (Chg [] W w3) := (C1.out.drewN _).trans C.out
  clear c0 c1 c2 C LP LE
  obtain ⟨c0, c1, c2⟩ := K0.out _ C1.out
  go_wp2_with fail
  replace C1 := Lib.hid (C1.out.drewN 1)
  go_region_held3 (fun w' : World => w'.cell? ⟨w.heap.size, 0, none⟩ = some (.int .i64 n) ∧ w'.cell? ⟨w.heap.size, 1, none⟩ = some (.int .i64 k) ∧ w'.cell? ⟨w.heap.size, 2, none⟩ = some (.int .i64 s)) (first | exact ⟨c0, c1, c2⟩ | exact K0.out _ C1.out | exact (KS.out _ _ _ _ _ C1.out).1) (first
    | (go_at_call 48; refine (LM.out _).mono ?_; rintro e w4 ⟨rfl, C⟩; replace C1 := Lib.hid (C1.out.trans C.out); clear C; have BQ := Lib.hid (KP.out _ C1.out); have q0 := BQ.out.cell (j := 0) rfl; have q1 := BQ.out.cell (j := 1) rfl; have q2 := BQ.out.cell (j := 2) rfl; have q3 := BQ.out.cell (j := 3) rfl; have f0 := BQ.out.free 0; have f1 := BQ.out.free 1; have f2 := BQ.out.free 2; have f3 := BQ.out.free 3))
  have FW := Lib.hid (KS.out w4 (.int .i64 S') (.int .i64 R') (.int .i64 M') (.int .i64 P') C1.out).2
  clear q0 q1 q2 q3 f0 f1 f2 f3
  go_wp2_with fail
  obtain ⟨F1, F2⟩ := FW.out
  refine bodyPost_ret (results_cell_row rfl _ _ (w.heap.size + 1) _ _ _ _ rfl F2 Try.underlying28 rfl info_place) rfl ?_
  exact ⟨rfl, F1⟩

end
end Go.Proofs.Ytheplbjlfkjncaa
