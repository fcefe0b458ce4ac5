/-
  The program's layout of blocks: the members with a row's blocks. By an AI agent.
-/
import Derived.Test.YtheplbjlfkjncaaGmLay
import Derived.Test.YtheplbjlfkjncaaGSide
import Derived.OwnWalk
namespace Go.Proofs.Ytheplbjlfkjncaa
open Go.RowKit

theorem info_gint' : (Try.prog.info? 3).map (fun i => (i.zero, i.size, i.bytes)) = some (some (.int .i64 0), 1, 8) := by kernel_rfl

/-- The first d members are in their places. -/
def Gm.some (g : Gm) (p d : Nat) : List Value := (List.range (g.n - 1)).map (fun i => Value.int .i64 (if i < d then (g.mem p i : Int) else 0))

theorem Gm.some_len (g : Gm) (p d : Nat) : (g.some p d).length = g.n - 1 := by simp [Gm.some]

theorem Gm.some_zero (g : Gm) (p : Nat) : g.some p 0 = List.replicate (g.n - 1) (.int .i64 0) := by
  apply List.ext_getElem?
  intro i
  unfold Gm.some
  by_cases h : i < g.n - 1 <;> simp [h]

theorem Gm.some_next (g : Gm) (p d : Nat) : (g.some p d).set d (.int .i64 (g.mem p d : Int)) = g.some p (d + 1) := by
  apply List.ext_getElem?
  intro i
  rw [List.getElem?_set, Gm.some_len]
  unfold Gm.some
  by_cases h : i < g.n - 1
  · by_cases e : d = i
    · subst e
      simp [h]
    · have h1 : (i < d + 1) = (i < d) := propext (by omega)
      simp [h, e, h1]
  · by_cases e : d = i
    · subst e
      simp [h]
    · simp [h, e]

theorem Gm.some_all (g : Gm) (p : Nat) : g.some p (g.n - 1) = (ints (g.list p)).map (Value.int .i64) := by
  apply List.ext_getElem?
  intro i
  unfold Gm.some Gm.list ints
  by_cases h : i < g.n - 1 <;> simp [h]

set_option maxHeartbeats 2000000 in
set_option maxRecDepth 100000 in
theorem lwith (g : Gm) (hg : g.Ok) (w : World) (r : Nat) (hr : r < g.rows) : Calls Try.prog 32 #[.agg #[.int .i64 (g.n : Int), .int .i64 (g.k : Int), .int .i64 (g.s : Int)], .int .i64 (r : Int)] w (fun e w' => ∃ u, e = .returned u ∧ Hid (w'.ownsRow w.heap.size 3 1 u (g.list (g.par (r / g.k))).length ((ints (g.list (g.par (r / g.k)))).map (Value.int .i64))) ∧ Hid (Chg [] w w')) := by
  obtain ⟨i0, ki, kz0, kz1, kz2⟩ := info_parts info_gint'
  replace ki := Lib.hid ki
  replace kz0 := Lib.hid kz0
  replace kz1 := Lib.hid kz1
  replace kz2 := Lib.hid kz2
  obtain ⟨CA, K0⟩ := lay_box (g.n : Int) (g.k : Int) (g.s : Int) w
  obtain ⟨W, hW⟩ : ∃ W, W = w.alloc (.cells #[.int .i64 (g.n : Int), .int .i64 (g.k : Int), .int .i64 (g.s : Int)] 72) := ⟨_, rfl⟩
  rw [← hW] at K0 CA
  have hn := hg.n
  have hk := hg.k
  obtain ⟨p, hp⟩ : ∃ p, p = g.par (r / g.k) := ⟨_, rfl⟩
  have hpl : p < g.n := by rw [hp]; exact Gm.par_lt (by omega) _
  obtain ⟨D, hD⟩ : ∃ D, D = g.n - 1 := ⟨_, rfl⟩
  have LR : Hid (∀ w', Calls Try.prog 49 #[.agg #[.int .i64 (g.n : Int), .int .i64 (g.k : Int), .int .i64 (g.s : Int)]] w' (Says w' (.int .i64 (D : Int)))) := fun w' => by rw [hD]; exact lrow g hg w'
  have LP : Hid (∀ w', Calls Try.prog 31 #[.agg #[.int .i64 (g.n : Int), .int .i64 (g.k : Int), .int .i64 (g.s : Int)], .int .i64 (r : Int)] w' (Says w' (.int .i64 (p : Int)))) := fun w' => by rw [hp]; exact lpar g hg w' r hr
  have LM : Hid (∀ d, d < D → ∀ w', Calls Try.prog 48 #[.agg #[.int .i64 (g.n : Int), .int .i64 (g.k : Int), .int .i64 (g.s : Int)], .int .i64 (p : Int), .int .i64 (d : Int)] w' (Says w' (.int .i64 (g.mem p d : Int)))) := fun d hd w' => lmem g hg w' p d hpl (by omega)
  have FIN : Hid ((g.list p).length = D) := by show _ = _; rw [hD]; simp [Gm.list]
  have SZ : Hid (g.some p 0 = List.replicate D (.int .i64 0)) := by show _ = _; rw [hD]; exact Gm.some_zero g p
  have SN : Hid (∀ d, (g.some p d).set d (.int .i64 (g.mem p d : Int)) = g.some p (d + 1)) := Gm.some_next g p
  have SA : Hid (g.some p D = (ints (g.list p)).map (Value.int .i64)) := by show _ = _; rw [hD]; exact Gm.some_all g p
  have hDl : D ≤ 15 := by omega
  have hDp : 0 < D := by omega
  rw [← hp]
  clear hg hn hk hp hpl hD hr
  generalize (g.n : Int) = n at *
  generalize (g.k : Int) = k at *
  generalize (g.s : Int) = s at *
  generalize (r : Int) = r' at *
  go_enter Try.func32, Try.ntmps32
  obtain ⟨c0, c1, c2⟩ := K0.out W (Chg.refl _ _)
  go_wp2_with fail
  rw [← hW]
  clear hW
  refine (LR.out _).mono ?_
  rintro e w1 ⟨rfl, C⟩
  have C1 : Hid (Chg [] W w1) := C
  clear LR C c0 c1 c2
  go_wp2_with (with_reducible refine wpList_make_full _ rfl _ _ 33 rfl w.heap.size 3 i0 _ 1 Try.underlying33 ki.out kz0.out kz1.out .i64 .i64 (D : Int) (D : Int) D rfl rfl rfl rfl (by rw [kz2.out]; omega) (by unfold maxLen; omega) ((CA.out.trans C1.out).size) ?_; intro w2 ow gr; have O2 := Lib.hid ow; have C2 := Lib.hid (C1.out.grown gr (fun k hk => by cases hk)); clear ow gr)
  replace O2 : Hid (w2.ownsRow w.heap.size 3 1 (.slice (some ⟨w1.heap.size, 0, none⟩) D D) D (g.some p 0)) := by
    have o := O2.out
    rw [Nat.mul_one, show (Value.int IntKind.i64 0).cells = #[.int .i64 0] from rfl, toList_madeCells_one, ← SZ.out] at o
    exact o
  have HG : Hid (w.heap.size < w1.heap.size ∧ W.heap.size ≤ w1.heap.size) := ⟨Nat.lt_of_lt_of_le (block_lt_of_cell (K0.out W (Chg.refl _ _)).1) C1.out.size, C1.out.size⟩
  clear C1 SZ
  obtain ⟨G, hG⟩ : ∃ G, G = w1.heap.size := ⟨_, rfl⟩
  rw [← hG] at O2 HG ⊢
  clear hG
  go_loopw [12] (fun i wr => ∃ d : Nat, d ≤ D ∧ i = .int .i64 (d : Int) ∧ Hid (wr.ownsRow w.heap.size 3 1 (.slice (some ⟨G, 0, none⟩) D D) D (g.some p d)) ∧ Hid (Chg [] W wr)) (fun i _ => D - (intOf i).toNat)
  case atStart => exact ⟨0, Nat.zero_le _, rfl, O2, C2⟩
  case round =>
    obtain ⟨d, hd, rfl, O, C1⟩ := hrel
    clear O2 C2
    have hd0 : (0 : Int) ≤ d := Int.natCast_nonneg _
    by_cases hlt : d < D
    · have hd1 : (d : Int) < D := by omega
      obtain ⟨M, hM⟩ : ∃ M, M = g.mem p d := ⟨_, rfl⟩
      have LD := Lib.hid (LM.out d hlt)
      rw [← hM] at LD
      have FS : Hid (∀ w', w'.ownsRow w.heap.size 3 1 (.slice (some ⟨G, 0, none⟩) D D) D (g.some p d) → Chg [] W w' →
          ((w'.setCell ⟨G, d, none⟩ (.int .i64 (M : Int))).ownsRow w.heap.size 3 1 (.slice (some ⟨G, 0, none⟩) D D) D (g.some p (d + 1)) ∧ Chg [] W (w'.setCell ⟨G, d, none⟩ (.int .i64 (M : Int)))) ∧ w'.frozen? ⟨G, d, none⟩ = false ∧ ∃ x, w'.cell? ⟨G, d, none⟩ = some x) := fun w' o c => by
        obtain ⟨h1, h2, h3⟩ := owns_set o hlt (.int .i64 (M : Int))
        rw [hM, SN.out d, ← hM] at h1
        exact ⟨⟨h1, c.setCell (.inr HG.out.2) _⟩, h2, h3⟩
      clear hM
      obtain ⟨c0, c1, c2⟩ := K0.out _ C1.out
      go_wp2_with fail
      replace C1 := Lib.hid (C1.out.drewN 1)
      replace O : Hid ((wr.drewN 1).ownsRow w.heap.size 3 1 (.slice (some ⟨G, 0, none⟩) D D) D (g.some p d)) := O
      go_region_held3 (fun w' : World => w'.cell? ⟨w.heap.size, 0, none⟩ = some (.int .i64 n) ∧ w'.cell? ⟨w.heap.size, 1, none⟩ = some (.int .i64 k) ∧ w'.cell? ⟨w.heap.size, 2, none⟩ = some (.int .i64 s)) (first | exact ⟨c0, c1, c2⟩ | exact K0.out _ C1.out | exact K0.out _ (FS.out _ O.out C1.out).1.2) (first
        | (go_at_call 31; refine (LP.out _).mono ?_; rintro e w3 ⟨rfl, C⟩; replace O := Lib.hid (owns_chg O.out C.out (by simp)); replace C1 := Lib.hid (C1.out.trans C.out); clear C)
        | (go_at_call 48; refine (LD.out _).mono ?_; rintro e w4 ⟨rfl, C⟩; replace O := Lib.hid (owns_chg O.out C.out (by simp)); replace C1 := Lib.hid (C1.out.trans C.out); clear C; obtain ⟨f0, x, q0⟩ := (FS.out _ O.out C1.out).2))
      have N1 := Lib.hid (FS.out _ O.out C1.out).1
      clear O C1 q0 f0 c0 c1 c2 FS LD
      go_wp2_with fail
      exact ⟨⟨d + 1, by omega, by first | rfl | go_num, N1.out.1, N1.out.2⟩, by simp [intOf]; omega⟩
    · obtain rfl : D = d := by omega
      have hd1 : ¬ (D : Int) < D := by omega
      go_wp2_with fail
      go_ret
      refine ⟨_, rfl, ?_, CA.out.trans C1.out⟩
      have o := O.out
      rw [SA.out] at o
      show wr.ownsRow _ _ _ _ _ _
      rw [FIN.out]
      exact o

end Go.Proofs.Ytheplbjlfkjncaa
