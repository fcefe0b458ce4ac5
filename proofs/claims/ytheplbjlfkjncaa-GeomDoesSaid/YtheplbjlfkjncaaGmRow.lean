/-
  The program's layout of blocks: the block at a place. By an AI agent.
-/
import Derived.Test.YtheplbjlfkjncaaGmLay
namespace Go.Proofs.Ytheplbjlfkjncaa
open Go.RowKit

section
variable (g : Gm) (hg : g.Ok) (w : World)
include hg

set_option maxHeartbeats 2000000 in
set_option maxRecDepth 100000 in
theorem lblock (m r : Nat) (hm : m < g.n) (hr : r < g.rows) (hne : m ≠ g.par (r / g.k)) : Calls Try.prog 33 #[.agg #[.int .i64 (g.n : Int), .int .i64 (g.k : Int), .int .i64 (g.s : Int)], .int .i64 (m : Int), .int .i64 (r : Int)] w (Says w (.int .i64 (g.block m r : Int))) := by
  obtain ⟨CA, K0⟩ := lay_box (g.n : Int) (g.k : Int) (g.s : Int) w
  obtain ⟨W, hW⟩ : ∃ W, W = w.alloc (.cells #[.int .i64 (g.n : Int), .int .i64 (g.k : Int), .int .i64 (g.s : Int)] 72) := ⟨_, rfl⟩
  rw [← hW] at K0 CA
  have LE : Hid (∀ w', Calls Try.prog 47 #[.agg #[.int .i64 (g.n : Int), .int .i64 (g.k : Int), .int .i64 (g.s : Int)]] w' (Says w' (.int .i64 (g.each : Int)))) := fun w' => leach g hg w'
  have LP : Hid (∀ w', Calls Try.prog 31 #[.agg #[.int .i64 (g.n : Int), .int .i64 (g.k : Int), .int .i64 (g.s : Int)], .int .i64 (r : Int)] w' (Says w' (.int .i64 (g.par (r / g.k) : Int)))) := fun w' => lpar g hg w' r hr
  have hbl := Gm.block_lt hg hm hne hr
  have hle := Gm.le_blocks hg
  have hlr := Gm.le_rows hg
  have hn := hg.n
  have hk := hg.k
  have hep := Gm.each_pos hg
  have hee := Gm.le_each hg
  obtain ⟨Q, hQ⟩ : ∃ Q, Q = r / g.k := ⟨_, rfl⟩
  obtain ⟨p, hp⟩ : ∃ p, p = g.par Q := ⟨_, rfl⟩
  have hpl : p < g.n := by rw [hp]; exact Gm.par_lt (by omega) _
  have LN : Hid (∀ w', Calls Try.prog 50 #[.agg #[.int .i64 (g.n : Int), .int .i64 (g.k : Int), .int .i64 (g.s : Int)], .int .i64 (p : Int), .int .i64 (m : Int)] w' (Says w' (.int .i64 (g.far p m : Int)))) := fun w' => lnum g hg w' p m hpl hm
  obtain ⟨F, hF⟩ : ∃ F, F = g.far p m := ⟨_, rfl⟩
  have hFl : F < g.n := by rw [hF]; exact Gm.far_lt (by omega) _ _
  obtain ⟨X, hX⟩ : ∃ X, X = r % g.k := ⟨_, rfl⟩
  obtain ⟨V, hV⟩ : ∃ V, V = Q * g.each := ⟨_, rfl⟩
  obtain ⟨G, hG⟩ : ∃ G, G = F * g.k := ⟨_, rfl⟩
  obtain ⟨S, hS⟩ : ∃ S, S = V + G := ⟨_, rfl⟩
  obtain ⟨T, hT⟩ : ∃ T, T = g.block m r := ⟨_, rfl⟩
  have hTS : T = S + X := by
    rw [hT, hS, hV, hG, hX, hF, hp, hQ]
    unfold Gm.block Gm.each
    rw [Nat.mul_assoc]
  rw [← hQ, ← hp] at LP
  rw [← hF] at LN
  rw [← hT] at hbl ⊢
  have bT : T ≤ 1000000 := by omega
  have bS : S ≤ 1000000 := by omega
  have bV : V ≤ 1000000 := by omega
  have bG : G ≤ 1000000 := by omega
  have bX : X ≤ 1000000 := by omega
  have bQ : Q ≤ 1000000 := Nat.le_trans (by rw [hQ]; exact Nat.div_le_self _ _) (by omega : r ≤ 1000000)
  have k0 : ¬ (g.k : Int) = 0 := by omega
  have e6 : (Q : Int) * (g.each : Int) = (V : Int) := by rw [hV, Int.natCast_mul]
  have e7 : (F : Int) * (g.k : Int) = (G : Int) := by rw [hG, Int.natCast_mul]
  have e8 : (V : Int) + (G : Int) = (S : Int) := by omega
  have e9 : (S : Int) + (X : Int) = (T : Int) := by omega
  have d2 : Int.tdiv (r : Int) (g.k : Int) = (Q : Int) := by rw [hQ]; rfl
  have d3 : Int.tmod (r : Int) (g.k : Int) = (X : Int) := by rw [hX]; rfl
  obtain ⟨a1, a2⟩ := wrap_small bT
  obtain ⟨a3, a4⟩ := wrap_small bS
  obtain ⟨a5, a6⟩ := wrap_small bV
  obtain ⟨a7, a8⟩ := wrap_small bG
  obtain ⟨ab, ac⟩ := wrap_small bX
  obtain ⟨ad, ae⟩ := wrap_small bQ
  clear hg hm hr hne hbl hle hlr hn hk hep hee hpl hFl hV hG hS hT hTS hp hF hX hQ bT bS bV bG bX bQ
  generalize (g.each : Int) = E at *
  generalize (g.n : Int) = n at *
  generalize (g.k : Int) = k at *
  generalize (g.s : Int) = s at *
  generalize (m : Int) = m' at *
  generalize (p : Int) = p' at *
  generalize (r : Int) = r' at *
  generalize (Q : Int) = Q' at *
  generalize (X : Int) = X' at *
  generalize (V : Int) = V' at *
  generalize (G : Int) = G' at *
  generalize (S : Int) = S' at *
  generalize (T : Int) = T' at *
  generalize (F : Int) = F' at *
  obtain ⟨c0, c1, c2⟩ := K0.out W (Chg.refl _ _)
  go_enter Try.func33, Try.ntmps33
  go_wp2_with fail
  rw [← hW]
  clear hW
  have C1 : Hid (Chg [] W (W.drewN 1)) := (Chg.refl _ _).drewN 1
  go_region_held3 (fun w' : World => w'.cell? ⟨w.heap.size, 0, none⟩ = some (.int .i64 n) ∧ w'.cell? ⟨w.heap.size, 1, none⟩ = some (.int .i64 k) ∧ w'.cell? ⟨w.heap.size, 2, none⟩ = some (.int .i64 s)) (first | exact ⟨c0, c1, c2⟩ | exact K0.out _ C1.out) (first
    | (go_at_call 31; refine (LP.out _).mono ?_; rintro e w1 ⟨rfl, C⟩; replace C1 := Lib.hid (C1.out.trans C.out); clear C)
    | (go_at_call 50; refine (LN.out _).mono ?_; rintro e w2 ⟨rfl, C⟩; replace C1 := Lib.hid (C1.out.trans C.out); clear C))
  clear c0 c1 c2 LP LN
  obtain ⟨c0, c1, c2⟩ := K0.out _ C1.out
  go_wp2_with fail
  replace C1 := Lib.hid (C1.out.drewN 1)
  go_region_held3 (fun w' : World => w'.cell? ⟨w.heap.size, 0, none⟩ = some (.int .i64 n) ∧ w'.cell? ⟨w.heap.size, 1, none⟩ = some (.int .i64 k) ∧ w'.cell? ⟨w.heap.size, 2, none⟩ = some (.int .i64 s)) (first | exact ⟨c0, c1, c2⟩ | exact K0.out _ C1.out) (first
    | (go_at_call 47; refine (LE.out _).mono ?_; rintro e w3 ⟨rfl, C⟩; replace C1 := Lib.hid (C1.out.trans C.out); clear C))
  go_wp2_with fail
  go_ret
  exact ⟨rfl, CA.out.trans C1.out⟩

end
end Go.Proofs.Ytheplbjlfkjncaa
