/-
  GeomDoes, walked. By an AI agent. Printed by gen_gmdoes.py.
-/
import Derived.Test.YtheplbjlfkjncaaGmKnown
import Derived.Test.YtheplbjlfkjncaaRefGeom4
import Derived.Test.YtheplbjlfkjncaaRefGeom6
import Derived.Laws.StructEq
import Derived.Lib.SmallJoins
import Derived.Deep.RegionHeld3
import Derived.Deep.CutBlock
import Derived.Deep.DeepCutAuto
namespace Go.Proofs.Ytheplbjlfkjncaa
open Go.RowKit

/-- Two places that are the same. -/
theorem same_place (xs : Array Value) (P0 P1 P2 P3 : Int) (hx : xs = #[.int .i64 P0, .int .i64 P1, .int .i64 P2, .int .i64 P3]) (w : World) : (binOp .eql 28 (.agg xs) (.agg xs)).run Try.prog w = .ok (.bool true) w := by
  subst hx
  go_simp

set_option maxHeartbeats 4000000 in
set_option maxRecDepth 100000 in
theorem geomDoes_core (m c t b a r : Int) (w : World) (l : List Nat) (is : Bool) (e1 e2 e3 e5 R B P0 P1 P2 P3 q x : Int)
    (b1 : 0 ≤ e1 ∧ e1 ≤ 100) (b2 : 0 ≤ e2 ∧ e2 ≤ 100) (b3 : 0 ≤ e3 ∧ e3 ≤ 100) (b5 : 0 ≤ e5 ∧ e5 ≤ 100) (hl : l.length ≤ 16)
    (k1p : ∀ w', Calls Try.prog 8 #[.agg #[.int .i64 m, .int .i64 c, .int .i64 t]] w' (Says w' (.int .u16 e1)))
    (k1d : ∀ w', Calls Try.prog 17 #[.agg #[.int .i64 m, .int .i64 c, .int .i64 t]] w' (Says w' (.int .i64 e1)))
    (k2p : ∀ w', Calls Try.prog 9 #[.agg #[.int .i64 m, .int .i64 c, .int .i64 t], .int .i64 b] w' (Says w' (.tuple #[.agg #[.int .i64 P0, .int .i64 P1, .int .i64 P2, .int .i64 P3], .int .u16 e2])))
    (k2d : ∀ w', Calls Try.prog 13 #[.agg #[.int .i64 m, .int .i64 c, .int .i64 t], .int .i64 b] w' (Says w' (.tuple #[.agg #[.int .i64 P0, .int .i64 P1, .int .i64 P2, .int .i64 P3], .int .i64 e2])))
    (k3p : ∀ w', Calls Try.prog 10 #[.agg #[.int .i64 m, .int .i64 c, .int .i64 t], .int .i64 r] w' (Says w' (.tuple #[.int .i64 q, .int .u16 e3])))
    (k3d : ∀ w', Calls Try.prog 14 #[.agg #[.int .i64 m, .int .i64 c, .int .i64 t], .int .i64 r] w' (Says w' (.tuple #[.int .i64 q, .int .i64 e3])))
    (k4p : ∀ w', Calls Try.prog 11 #[.agg #[.int .i64 m, .int .i64 c, .int .i64 t], .int .i64 r] w' (SaysList w' l (.int .u16 e3)))
    (k4d : ∀ w', Calls Try.prog 15 #[.agg #[.int .i64 m, .int .i64 c, .int .i64 t], .int .i64 r] w' (SaysList w' l (.int .i64 e3)))
    (k5p : ∀ w', Calls Try.prog 12 #[.agg #[.int .i64 m, .int .i64 c, .int .i64 t], .int .i64 a, .int .i64 r] w' (Says w' (.tuple #[.int .i64 x, .bool is, .int .u16 e5])))
    (k5d : ∀ w', Calls Try.prog 16 #[.agg #[.int .i64 m, .int .i64 c, .int .i64 t], .int .i64 a, .int .i64 r] w' (Says w' (.tuple #[.int .i64 x, .bool is, .int .i64 e5])))
    (k6p : ∀ w', Calls Try.prog 18 #[.agg #[.int .i64 m, .int .i64 c, .int .i64 t]] w' (Says w' (.int .i64 R)))
    (k6d : ∀ w', Calls Try.prog 19 #[.agg #[.int .i64 m, .int .i64 c, .int .i64 t]] w' (Says w' (.int .i64 R)))
    (k7p : ∀ w', Calls Try.prog 20 #[.agg #[.int .i64 m, .int .i64 c, .int .i64 t]] w' (Says w' (.int .i64 B)))
    (k7d : ∀ w', Calls Try.prog 21 #[.agg #[.int .i64 m, .int .i64 c, .int .i64 t]] w' (Says w' (.int .i64 B))) :
    Calls Try.prog 3 #[.agg #[.int .i64 m, .int .i64 c, .int .i64 t], .int .i64 b, .int .i64 a, .int .i64 r] w (Says w (.bool true)) := by
  have H0 : Hid (Side w (w.alloc (.cells #[.int .i64 m, .int .i64 c, .int .i64 t] 23)) [blkT w.heap.size 23 [.int .i64 m, .int .i64 c, .int .i64 t]]) := (Side.nil (Chg.refl _ _)).box _ _
  have w_1 := Lib.hid (wrap_int (z := e1) (by omega) (by omega))
  have w_2 := Lib.hid (wrap_int (z := e2) (by omega) (by omega))
  have w_3 := Lib.hid (wrap_int (z := e3) (by omega) (by omega))
  have w_5 := Lib.hid (wrap_int (z := e5) (by omega) (by omega))
  have SP := Lib.hid (same_place _ P0 P1 P2 P3 rfl)
  have KN : Hid (∀ w', Calls Try.prog 23 #[] w' (Says w' (.bool true))) := known_any
  have hl2 : Hid (l.length ≤ 16) := hl
  replace k1p := Lib.hid k1p
  replace k1d := Lib.hid k1d
  replace k2p := Lib.hid k2p
  replace k2d := Lib.hid k2d
  replace k3p := Lib.hid k3p
  replace k3d := Lib.hid k3d
  replace k4p := Lib.hid k4p
  replace k4d := Lib.hid k4d
  replace k5p := Lib.hid k5p
  replace k5d := Lib.hid k5d
  replace k6p := Lib.hid k6p
  replace k6d := Lib.hid k6d
  replace k7p := Lib.hid k7p
  replace k7d := Lib.hid k7d
  clear b1 b2 b3 b5 hl
  go_enter Try.func3, Try.ntmps3
  go_wp2_with fail
  refine (k1p.out _).mono ?_
  rintro e w1 ⟨rfl, C⟩
  have H := Lib.hid (H0.out.quiet C.out)
  clear k1p H0 C
  have c0 := (H.out.get 0 rfl : Blk _ _ _ _).cell (j := 0) rfl
  have c1 := (H.out.get 0 rfl : Blk _ _ _ _).cell (j := 1) rfl
  have c2 := (H.out.get 0 rfl : Blk _ _ _ _).cell (j := 2) rfl
  go_wp2_with fail
  -- Of
  refine (k2p.out _).mono ?_
  rintro e w2 ⟨rfl, C⟩
  have H2 := Lib.hid (H.out.quiet C.out)
  have hz : w.heap.size < w2.heap.size := (H2.out.get 0 rfl : Blk _ _ _ _).lt
  clear c0 c1 c2
  have c0 := (H2.out.get 0 rfl : Blk _ _ _ _).cell (j := 0) rfl
  have c1 := (H2.out.get 0 rfl : Blk _ _ _ _).cell (j := 1) rfl
  have c2 := (H2.out.get 0 rfl : Blk _ _ _ _).cell (j := 2) rfl
  replace H := Lib.hid (H2.out.box [.int .i64 P0, .int .i64 P1, .int .i64 P2, .int .i64 P3] 28)
  clear k2p C H2
  go_wp2_with fail
  -- Parity
  refine (k3p.out _).mono ?_
  rintro e w3 ⟨rfl, C⟩
  replace H := Lib.hid (H.out.quiet C.out)
  clear c0 c1 c2
  clear k3p C hz
  obtain ⟨PA, hPA⟩ : ∃ P, P = w2.heap.size := ⟨_, rfl⟩
  rw [← hPA] at H ⊢
  clear hPA
  have c0 := (H.out.get 1 rfl : Blk _ _ _ _).cell (j := 0) rfl
  have c1 := (H.out.get 1 rfl : Blk _ _ _ _).cell (j := 1) rfl
  have c2 := (H.out.get 1 rfl : Blk _ _ _ _).cell (j := 2) rfl
  go_wp2_with fail
  -- Members
  refine (k4p.out _).mono ?_
  rintro e w4 ⟨u, rfl, O, C⟩
  obtain ⟨uo, uc, rfl⟩ := owns_slice O.out
  replace H := Lib.hid (H.out.own O.out C.out)
  clear c0 c1 c2
  clear k4p C O
  have c0 := (H.out.get 2 rfl : Blk _ _ _ _).cell (j := 0) rfl
  have c1 := (H.out.get 2 rfl : Blk _ _ _ _).cell (j := 1) rfl
  have c2 := (H.out.get 2 rfl : Blk _ _ _ _).cell (j := 2) rfl
  go_wp2_with fail
  -- At
  refine (k5p.out _).mono ?_
  rintro e w5 ⟨rfl, C⟩
  replace H := Lib.hid (H.out.quiet C.out)
  clear c0 c1 c2
  clear k5p C
  have c0 := (H.out.get 2 rfl : Blk _ _ _ _).cell (j := 0) rfl
  have c1 := (H.out.get 2 rfl : Blk _ _ _ _).cell (j := 1) rfl
  have c2 := (H.out.get 2 rfl : Blk _ _ _ _).cell (j := 2) rfl
  go_wp2_with fail
  -- the document's Of
  refine (k2d.out _).mono ?_
  rintro e w6 ⟨rfl, C⟩
  have H2 := Lib.hid (H.out.quiet C.out)
  have hz : w.heap.size < w6.heap.size := (H2.out.get 2 rfl : Blk _ _ _ _).lt
  clear c0 c1 c2
  have c0 := (H2.out.get 2 rfl : Blk _ _ _ _).cell (j := 0) rfl
  have c1 := (H2.out.get 2 rfl : Blk _ _ _ _).cell (j := 1) rfl
  have c2 := (H2.out.get 2 rfl : Blk _ _ _ _).cell (j := 2) rfl
  replace H := Lib.hid (H2.out.box [.int .i64 P0, .int .i64 P1, .int .i64 P2, .int .i64 P3] 28)
  clear k2d C H2
  go_wp2_with fail
  -- its Parity
  refine (k3d.out _).mono ?_
  rintro e w7 ⟨rfl, C⟩
  replace H := Lib.hid (H.out.quiet C.out)
  clear c0 c1 c2
  clear k3d C hz
  obtain ⟨PB, hPB⟩ : ∃ P, P = w6.heap.size := ⟨_, rfl⟩
  rw [← hPB] at H ⊢
  clear hPB
  have c0 := (H.out.get 3 rfl : Blk _ _ _ _).cell (j := 0) rfl
  have c1 := (H.out.get 3 rfl : Blk _ _ _ _).cell (j := 1) rfl
  have c2 := (H.out.get 3 rfl : Blk _ _ _ _).cell (j := 2) rfl
  go_wp2_with fail
  -- its Members
  refine (k4d.out _).mono ?_
  rintro e w8 ⟨u, rfl, O, C⟩
  obtain ⟨vo, vc, rfl⟩ := owns_slice O.out
  replace H := Lib.hid (H.out.own O.out C.out)
  clear c0 c1 c2
  clear k4d C O
  have c0 := (H.out.get 4 rfl : Blk _ _ _ _).cell (j := 0) rfl
  have c1 := (H.out.get 4 rfl : Blk _ _ _ _).cell (j := 1) rfl
  have c2 := (H.out.get 4 rfl : Blk _ _ _ _).cell (j := 2) rfl
  go_wp2_with fail
  -- its At
  refine (k5d.out _).mono ?_
  rintro e w9 ⟨rfl, C⟩
  replace H := Lib.hid (H.out.quiet C.out)
  clear c0 c1 c2
  clear k5d C
  have c0 := (H.out.get 4 rfl : Blk _ _ _ _).cell (j := 0) rfl
  have c1 := (H.out.get 4 rfl : Blk _ _ _ _).cell (j := 1) rfl
  have c2 := (H.out.get 4 rfl : Blk _ _ _ _).cell (j := 2) rfl
  have KG : Hid (∀ w', Chg [] w9 w' → w'.cell? ⟨w.heap.size, 0, none⟩ = some (.int .i64 m) ∧ w'.cell? ⟨w.heap.size, 1, none⟩ = some (.int .i64 c) ∧ w'.cell? ⟨w.heap.size, 2, none⟩ = some (.int .i64 t)) := fun w' C => by
    have q : Blk w' w.heap.size 23 [.int .i64 m, .int .i64 c, .int .i64 t] := (H.out.quiet C).get 4 rfl
    exact ⟨q.cell (j := 0) rfl, q.cell (j := 1) rfl, q.cell (j := 2) rfl⟩
  obtain ⟨u1, v1⟩ := w_1.out
  go_upto_region 10 with fail
  have C1 : Hid (Chg [] w9 (w9.drewN 1)) := (Chg.refl _ _).drewN 1
  go_region_held3 (fun w' : World => w'.cell? ⟨w.heap.size, 0, none⟩ = some (.int .i64 m) ∧ w'.cell? ⟨w.heap.size, 1, none⟩ = some (.int .i64 c) ∧ w'.cell? ⟨w.heap.size, 2, none⟩ = some (.int .i64 t)) (first | exact ⟨c0, c1, c2⟩ | exact KG.out _ C1.out) (first
    | (go_at_call 17; refine (k1d.out _).mono ?_; rintro e w2 ⟨rfl, C⟩; replace C1 := Lib.hid (C1.out.trans C.out); clear C)
    | (go_at_call 18; refine (k6p.out _).mono ?_; rintro e w2 ⟨rfl, C⟩; replace C1 := Lib.hid (C1.out.trans C.out); clear C)
    | (go_at_call 19; refine (k6d.out _).mono ?_; rintro e w2 ⟨rfl, C⟩; replace C1 := Lib.hid (C1.out.trans C.out); clear C)
    | (go_at_call 20; refine (k7p.out _).mono ?_; rintro e w2 ⟨rfl, C⟩; replace C1 := Lib.hid (C1.out.trans C.out); clear C)
    | (go_at_call 21; refine (k7d.out _).mono ?_; rintro e w2 ⟨rfl, C⟩; replace C1 := Lib.hid (C1.out.trans C.out); clear C))
  replace H := Lib.hid (H.out.quiet C1.out)
  clear k1d k6p k6d k7p k7d KG C1 c0 c1 c2 u1 v1 w_1
  have p0 := (H.out.get 3 rfl : Blk _ _ _ _).cell (j := 0) rfl
  have p1 := (H.out.get 3 rfl : Blk _ _ _ _).cell (j := 1) rfl
  have p2 := (H.out.get 3 rfl : Blk _ _ _ _).cell (j := 2) rfl
  have p3 := (H.out.get 3 rfl : Blk _ _ _ _).cell (j := 3) rfl
  have q0 := (H.out.get 1 rfl : Blk _ _ _ _).cell (j := 0) rfl
  have q1 := (H.out.get 1 rfl : Blk _ _ _ _).cell (j := 1) rfl
  have q2 := (H.out.get 1 rfl : Blk _ _ _ _).cell (j := 2) rfl
  have q3 := (H.out.get 1 rfl : Blk _ _ _ _).cell (j := 3) rfl
  obtain ⟨u2, v2⟩ := w_2.out
  obtain ⟨u3, v3⟩ := w_3.out
  have SQ := SP.out
  go_wp2_with fail
  have hlen : ((ints l).length : Nat) ≤ 140737488355328 := by rw [ints_length]; have := hl2.out; omega
  refine (same_ints _ _ (ints l) _ (RdV.owned (H.out.get 2 rfl : World.ownsRow _ 0 _ _ _ _ _)) (RdV.owned (H.out.get 0 rfl : World.ownsRow _ 0 _ _ _ _ _)) hlen).mono ?_
  rintro e w11 ⟨rfl, qn, rfl⟩
  replace H := Lib.hid (H.out.quiet ((Chg.refl _ _).drewN qn))
  clear p0 p1 p2 p3 q0 q1 q2 q3 u2 v2 u3 v3 SQ SP hlen
  go_wp2_with fail
  refine (KN.out _).mono ?_
  rintro e w12 ⟨rfl, C⟩
  have F := Lib.hid (H.out.chg.trans C.out)
  obtain ⟨u5, v5⟩ := w_5.out
  clear H C KN
  go_wp2_with fail
  go_ret
  exact ⟨rfl, F⟩

/-- Any geometry, any numbers. -/
theorem geomDoes_walk (m c t b a r : Int) (w : World) (rm : -9223372036854775808 ≤ m ∧ m ≤ 9223372036854775807) (rr : -9223372036854775808 ≤ r ∧ r ≤ 9223372036854775807) :
    Calls Try.prog 3 #[.agg #[.int .i64 m, .int .i64 c, .int .i64 t], .int .i64 b, .int .i64 a, .int .i64 r] w (Says w (.bool true)) := by
  have LN : ∀ (F : FuncId) (args : Array Value) (er : Value), (∀ w', Calls Try.prog F args w' (Says w' (.tuple #[.slice none 0 0, er]))) → ∀ w', Calls Try.prog F args w' (SaysList w' [] er) := fun F args er h w' =>
    (h w').mono fun e w2 hs => ⟨_, hs.1, World.ownsRow_nil _ _ _ _, hs.2⟩
  by_cases hv : Gm.valid m c t
  · obtain ⟨g, hg, rfl, rfl, rfl⟩ := Gm.valid_ok hv
    obtain ⟨P0, P1, P2, P3, e2, he2, O, O'⟩ : ∃ P0 P1 P2 P3 e2 : Int, (0 ≤ e2 ∧ e2 ≤ 100) ∧
        (∀ w', Calls Try.prog 9 #[.agg #[.int .i64 (g.n : Int), .int .i64 (g.k : Int), .int .i64 (g.s : Int)], .int .i64 b] w' (Says w' (.tuple #[.agg #[.int .i64 P0, .int .i64 P1, .int .i64 P2, .int .i64 P3], .int .u16 e2]))) ∧
        (∀ w', Calls Try.prog 13 #[.agg #[.int .i64 (g.n : Int), .int .i64 (g.k : Int), .int .i64 (g.s : Int)], .int .i64 b] w' (Says w' (.tuple #[.agg #[.int .i64 P0, .int .i64 P1, .int .i64 P2, .int .i64 P3], .int .i64 e2]))) := by
      by_cases hb : b < 0 ∨ (g.blocks : Int) ≤ b
      · exact ⟨0, 0, 0, 0, 3, ⟨by decide, by decide⟩, fun w' => gof_out g hg w' b hb, fun w' => rgof_out g hg w' b hb⟩
      · obtain ⟨b', rfl⟩ := Int.eq_ofNat_of_zero_le (by omega : 0 ≤ b)
        have hlt : b' < g.blocks := by omega
        exact ⟨_, _, _, _, 0, ⟨by decide, by decide⟩, fun w' => gof_in g hg w' b' hlt, fun w' => rgof_in g hg w' b' hlt⟩
    have K1 := fun w' => gcheck_good g hg w'
    have K1' := fun w' => rgcheck_good _ _ _ w' hg.valid
    have K6 := fun w' => grows_good g hg w'
    have K6' := fun w' => rgrows_good g hg w'
    have K7 := fun w' => gblocks_good g hg w'
    have K7' := fun w' => rgblocks_good g hg w'
    have z0 : (0 : Int) ≤ 0 ∧ (0 : Int) ≤ 100 := ⟨by decide, by decide⟩
    have z3 : (0 : Int) ≤ 3 ∧ (3 : Int) ≤ 100 := ⟨by decide, by decide⟩
    by_cases hr : r < 0 ∨ (g.rows : Int) ≤ r
    · have M' := fun w' => rgmembers_none _ _ _ r 3 w' (fun w2 => rgparity_out g hg w2 r rr hr) (by decide)
      have A' : ∀ w', Calls Try.prog 16 #[.agg #[.int .i64 (g.n : Int), .int .i64 (g.k : Int), .int .i64 (g.s : Int)], .int .i64 a, .int .i64 r] w' (Says w' (.tuple #[.int .i64 0, .bool false, .int .i64 3])) := fun w' => by
        by_cases ha : a < 0 ∨ (g.n : Int) ≤ a
        · exact rgat_member g hg w' a r ha
        · exact rgat_row g hg w' a r ha rr hr
      exact geomDoes_core _ _ _ b a r w [] false 0 e2 3 3 _ _ P0 P1 P2 P3 0 0 z0 he2 z3 z3 (by decide) K1 K1' O O' (fun w' => gparity_out g hg w' r hr) (fun w' => rgparity_out g hg w' r rr hr)
        (LN _ _ _ (fun w' => gmembers_out g hg w' r hr)) (LN _ _ _ M') (fun w' => gat_row g hg w' a r hr) A' K6 K6' K7 K7'
    · obtain ⟨r', rfl⟩ := Int.eq_ofNat_of_zero_le (by omega : 0 ≤ r)
      have hlt : r' < g.rows := by omega
      obtain ⟨x, is, e5, he5, A, A'⟩ : ∃ (x : Int) (is : Bool) (e5 : Int), (0 ≤ e5 ∧ e5 ≤ 100) ∧
          (∀ w', Calls Try.prog 12 #[.agg #[.int .i64 (g.n : Int), .int .i64 (g.k : Int), .int .i64 (g.s : Int)], .int .i64 a, .int .i64 (r' : Int)] w' (Says w' (.tuple #[.int .i64 x, .bool is, .int .u16 e5]))) ∧
          (∀ w', Calls Try.prog 16 #[.agg #[.int .i64 (g.n : Int), .int .i64 (g.k : Int), .int .i64 (g.s : Int)], .int .i64 a, .int .i64 (r' : Int)] w' (Says w' (.tuple #[.int .i64 x, .bool is, .int .i64 e5]))) := by
        by_cases ha : a < 0 ∨ (g.n : Int) ≤ a
        · exact ⟨0, false, 3, z3, fun w' => gat_member g hg w' a r' hlt ha, fun w' => rgat_member g hg w' a r' ha⟩
        · obtain ⟨a', rfl⟩ := Int.eq_ofNat_of_zero_le (by omega : 0 ≤ a)
          have hal : a' < g.n := by omega
          by_cases hp : a' = g.par (r' / g.k)
          · subst hp
            exact ⟨0, true, 0, z0, fun w' => gat_par g hg w' r' hlt, fun w' => rgat_par g hg w' r' hlt⟩
          · exact ⟨_, false, 0, z0, fun w' => gat_in g hg w' a' r' hal hlt hp, fun w' => rgat_in g hg w' a' r' hal hlt hp⟩
      exact geomDoes_core _ _ _ b a _ w (g.list (g.par (r' / g.k))) is 0 e2 0 e5 _ _ P0 P1 P2 P3 _ x z0 he2 z0 he5 (by unfold Gm.list; rw [List.length_map, List.length_range]; have := hg.n; omega) K1 K1' O O' (fun w' => gparity_in g hg w' r' hlt) (fun w' => rgparity_in g hg w' r' hlt)
        (fun w' => gmembers_in g hg w' r' hlt) (fun w' => rgmembers_in g hg w' r' hlt) A A' K6 K6' K7 K7'
  · have z6 : (0 : Int) ≤ 60 ∧ (60 : Int) ≤ 100 := ⟨by decide, by decide⟩
    exact geomDoes_core m c t b a r w [] false 60 60 60 60 0 0 0 0 0 0 0 0 z6 z6 z6 z6 (by decide) (fun w' => gcheck_bad m c t w' hv) (fun w' => rgcheck_bad m c t w' hv) (fun w' => gof_bad m c t b w' hv) (fun w' => rgof_bad m c t b w' hv)
      (fun w' => gparity_bad m c t r w' hv) (fun w' => rgparity_bad m c t r w' hv) (LN _ _ _ (fun w' => gmembers_bad m c t r w' hv)) (LN _ _ _ (fun w' => rgmembers_none m c t r 60 w' (fun w2 => rgparity_bad m c t r w2 hv) (by decide)))
      (fun w' => gat_bad m c t a r w' hv) (fun w' => rgat_bad m c t a r w' hv) (fun w' => grows_bad m c t w' hv) (fun w' => rgrows_bad m c t w' hv) (fun w' => gblocks_bad m c t w' hv) (fun w' => rgblocks_bad m c t w' rm hv)

end Go.Proofs.Ytheplbjlfkjncaa
