/-
  VoteStale. By an AI agent.
-/
import Derived.Test.YtffpjefecmkfmaaBVtLawT
namespace Go.Proofs.Ytffpjefecmkfmaa
open Go.RowKit

/-- The states of one are put anew, in a block of their own. -/
theorem BRow.renew {w0 w : World} {G n c i : Nat} {ds : List BalD} {d : BalD} (h : BRow w0 w (.slice (some ⟨G, 0, none⟩) n c) ds) (hi : ds[i]? = some d) :
    ∃ d' : BalD, d'.has = d.has ∧ d'.s = { d.s with st := [1, 1, 1] } ∧
      (w.alloc (.cells #[.int .u8 1, .int .u8 1, .int .u8 1] 37)).frozen? ⟨G, i * 13 + 11, none⟩ = false ∧
      (∃ u, (w.alloc (.cells #[.int .u8 1, .int .u8 1, .int .u8 1] 37)).cell? ⟨G, i * 13 + 11, none⟩ = some u) ∧
      BRow w0 ((w.alloc (.cells #[.int .u8 1, .int .u8 1, .int .u8 1] 37)).setCell ⟨G, i * 13 + 11, none⟩ (.slice (some ⟨w.heap.size, 0, none⟩) 3 3)) (.slice (some ⟨G, 0, none⟩) n c) (ds.set i d') := by
  obtain ⟨wA, hwA⟩ : ∃ wA, wA = w.alloc (.cells #[.int .u8 1, .int .u8 1, .int .u8 1] 37) := ⟨_, rfl⟩
  rw [← hwA]
  have CA : Chg [] w wA := by rw [hwA]; exact (Chg.refl _ _).alloc _
  have hsz : wA.heap.size = w.heap.size + 1 := by rw [hwA]; simp
  have BA : Blk wA w.heap.size 37 [.int .u8 1, .int .u8 1, .int .u8 1] := by rw [hwA]; exact Blk.made w [.int .u8 1, .int .u8 1, .int .u8 1] _
  have HA := h.chg CA
  have hG : G < w.heap.size := (h.row.lt G rfl).2
  have bst := HA.st d (List.mem_of_getElem? hi)
  have own : ∀ k, (Value.slice (some ⟨w.heap.size, 0, none⟩) 3 3).ownBlock = some k → k < wA.heap.size ∧ (Value.slice (some ⟨G, 0, none⟩) n c).ownBlock ≠ some k := fun k hk => by
    obtain rfl : w.heap.size = k := by simpa [Value.ownBlock] using hk
    refine ⟨by omega, fun e => ?_⟩
    have : G = w.heap.size := by simpa [Value.ownBlock] using e
    omega
  have BS1 : BSt wA (.slice (some ⟨G, 0, none⟩) n c) ⟨d.has, { d.s with st := [1, 1, 1] }, .slice (some ⟨w.heap.size, 0, none⟩) 3 3⟩ :=
    ⟨⟨Blk.sls (ys := []) (xs := [1, 1, 1]) BA, own⟩, by show (3 : Nat) ≤ _; decide, ⟨bst.2.2.id, bst.2.2.ev, bst.2.2.safe, bst.2.2.role, bst.2.2.m, bst.2.2.c, bst.2.2.t, bst.2.2.ring, bst.2.2.cur, by show By [1, 1, 1]; unfold By; decide⟩⟩
  obtain ⟨S1, F1⟩ := HA.set (i := i) (j := 11) (d := d) (u := .slice (some ⟨w.heap.size, 0, none⟩) 3 3) hi (by decide) rfl BS1
  exact ⟨⟨d.has, { d.s with st := [1, 1, 1] }, .slice (some ⟨w.heap.size, 0, none⟩) 3 3⟩, rfl, rfl, F1, ⟨_, HA.cell (i := i) (j := 11) (d := d) hi (by decide) rfl⟩, S1⟩

set_option maxHeartbeats 8000000 in
set_option maxRecDepth 100000 in
theorem voteStale_core (a0 x1 x2 x3 x4 : Int) (h0 : 0 ≤ a0 ∧ a0 ≤ 65535) (h1 : 0 ≤ x1 ∧ x1 ≤ 65535) (h2 : 0 ≤ x2 ∧ x2 ≤ 255) (h3 : 0 ≤ x3 ∧ x3 ≤ 255) (h4 : 0 ≤ x4 ∧ x4 ≤ 65535) (w : World) :
    Calls Try.prog 4 #[.int .u16 a0, .int .u16 x1, .int .u8 x2, .int .u8 x3, .int .u16 x4] w fun e w' => e = .returned (.bool true) ∧ Hid (Chg [] w w') := by
  obtain ⟨EI, hEI⟩ : ∃ EI : Int, EI = a0 + 2 := ⟨_, rfl⟩
  obtain ⟨E, hE⟩ : ∃ E : Nat, (E : Int) = EI := ⟨EI.toNat, by omega⟩
  have hE1 : 2 ≤ E ∧ E ≤ 65537 := by omega
  have BA := Lib.hid (ballots_any E (by omega) w)
  rw [hE] at BA
  obtain ⟨S, hSe⟩ : ∃ S : Nat, (S : Int) = Int.tmod x1 EI + 1 := ⟨(Int.tmod x1 EI + 1).toNat, by have := Int.tmod_eq_emod_of_nonneg (b := EI) h1.1; have := Int.emod_nonneg x1 (show EI ≠ 0 by omega); omega⟩
  have hS1 : 1 ≤ S ∧ S ≤ E := by
    have q1 := Int.tmod_eq_emod_of_nonneg (b := EI) h1.1
    have q2 := Int.emod_nonneg x1 (show EI ≠ 0 by omega)
    have q3 := Int.emod_lt_of_pos x1 (show 0 < EI by omega)
    omega
  obtain ⟨A, hAe⟩ : ∃ A : Nat, Int.tmod x2 3 = (A : Int) := ⟨(Int.tmod x2 3).toNat, by rw [Int.tmod_eq_emod_of_nonneg h2.1]; omega⟩
  have hA : A < 3 := by rw [Int.tmod_eq_emod_of_nonneg h2.1] at hAe; omega
  obtain ⟨SI, hSI⟩ : ∃ SI : Int, SI = (S : Int) := ⟨_, rfl⟩
  obtain ⟨O, hOe⟩ : ∃ O : Nat, Int.tmod x4 SI = (O : Int) := ⟨(Int.tmod x4 SI).toNat, by have := Int.tmod_eq_emod_of_nonneg (b := SI) h4.1; have := Int.emod_nonneg x4 (show SI ≠ 0 by omega); omega⟩
  have hO : O < S := by
    have q1 := Int.tmod_eq_emod_of_nonneg (b := SI) h4.1
    have q3 := Int.emod_lt_of_pos x4 (show 0 < SI by omega)
    omega
  obtain ⟨K, hKe⟩ : ∃ K : Nat, Int.tmod x3 4 = (K : Int) := ⟨(Int.tmod x3 4).toNat, by rw [Int.tmod_eq_emod_of_nonneg h3.1]; omega⟩
  have hK : K < 4 := by rw [Int.tmod_eq_emod_of_nonneg h3.1] at hKe; omega
  obtain ⟨TI, hTI⟩ : ∃ TI : Int, Int.tmod x1 EI = TI := ⟨_, rfl⟩
  have hTI1 : 0 ≤ TI ∧ TI ≤ 65536 := by omega
  have HSI : Hid (TI + 1 = SI) := by show _ = _; omega
  have hA0 : (0 : Int) ≤ A := Int.natCast_nonneg _
  have hA1 : (A : Int) < 3 := by omega
  have hK0 : (0 : Int) ≤ K := Int.natCast_nonneg _
  have hK1 : (K : Int) < 4 := by omega
  have hO0 : (0 : Int) ≤ O := Int.natCast_nonneg _
  have hO1 : (O : Int) ≤ 65537 := by omega
  have hE0 : ¬ EI = 0 := by omega
  have hE9 : 2 ≤ EI ∧ EI ≤ 65537 := by omega
  have HEI := Lib.hid hE
  have HEI2 := Lib.hid hEI
  have HSI2 : Hid (((S : Nat) : Int) = SI) := hSI.symm
  have hS9 : 1 ≤ SI ∧ SI ≤ 65537 := by omega
  have hS0 : ¬ SI = 0 := by omega
  clear hE hEI hSe hSI
  go_enter Try.func4, Try.ntmps4
  go_upto_region 2 with fail
  rw [← HEI2.out]
  clear HEI2 h0
  go_wp2_with fail
  refine BA.out.mono ?_
  rintro e w1 ⟨v, ds, rfl, R, hl, BS⟩
  have F0 := Lib.hid (four_base hl BS.out)
  clear BA BS
  obtain ⟨G, c, rfl, hc, _, hG1⟩ := R.out.head (by omega)
  rw [hl] at hc R ⊢
  have hc4 : (4 : Int) ≤ c := by omega
  clear hG1 hc
  go_upto_region 4 with fail
  rw [HSI.out]
  clear HSI hTI hTI1 hE0
  go_wp2_with fail
  have FB : Hid (Vt.Four ds (fun _ => true) (fun _ => E) (fun k => if k < 0 then S else 1) (fun _ => [1, 1, 1])) := by
    refine ⟨F0.out.len, fun k y hk => ?_⟩
    rw [if_neg (Nat.not_lt_zero k)]
    exact F0.out.at_ k y hk
  clear F0 hl
  go_loopw [14] (fun i wr => ∃ (j : Nat) (dj : List BalD), j ≤ 4 ∧ i = .int .i64 (j : Int) ∧ Hid (BRow w wr (.slice (some ⟨G, 0, none⟩) 4 c) dj) ∧ Hid (Vt.Four dj (fun _ => true) (fun _ => E) (fun k => if k < j then S else 1) (fun _ => [1, 1, 1]))) (fun i _ => 4 - (intOf i).toNat)
  case atStart => exact ⟨0, ds, by decide, rfl, R, FB⟩
  case round =>
    obtain ⟨j, dj, hj, rfl, RJ, FJ⟩ := hrel
    have hj0 : (0 : Int) ≤ j := Int.natCast_nonneg _
    clear R FB
    by_cases hlt : j < 4
    · have hj1 : (j : Int) < 4 := by omega
      obtain ⟨dd, hdd, q1, q2, q3⟩ := FJ.out.get hlt
      have bst := RJ.out.st dd (List.mem_of_getElem? hdd)
      obtain ⟨R2, f1⟩ := RJ.out.set (i := j) (j := 3) (d := dd) (d' := { dd with s := { dd.s with safe := S } }) (u := .int .u64 SI) hdd (by decide) (by rw [← HSI2.out]; rfl) ⟨bst.1, bst.2.1, ⟨bst.2.2.id, bst.2.2.ev, by show S < _; omega, bst.2.2.role, bst.2.2.m, bst.2.2.c, bst.2.2.t, bst.2.2.ring, bst.2.2.cur, bst.2.2.st⟩⟩
      have g1 := RJ.out.cell (i := j) (j := 3) (d := dd) hdd (by decide) rfl
      have F2 : Hid (Vt.Four (dj.set j { dd with s := { dd.s with safe := S } }) (fun _ => true) (fun _ => E) (fun k => if k < j + 1 then S else 1) (fun _ => [1, 1, 1])) := by
        refine FJ.out.set ⟨q1, ?_⟩ (fun k hk => ⟨rfl, rfl, ?_, rfl⟩)
        · rw [if_pos (Nat.lt_succ_self j), q2]
        · by_cases e : k < j
          · rw [if_pos e, if_pos (by omega)]
          · rw [if_neg e, if_neg (by omega)]
      replace R2 := Lib.hid R2
      clear hdd q1 q2 q3 RJ FJ bst
      go_wp2_with fail
      exact ⟨⟨j + 1, _, by omega, by go_num, R2, F2⟩, by simp [intOf]; omega⟩
    obtain rfl : j = 4 := by omega
    have F4 : Hid (Vt.Four dj (fun _ => true) (fun _ => E) (fun _ => S) (fun _ => [1, 1, 1])) := by
      refine ⟨FJ.out.len, fun k y hk => ?_⟩
      have hk4 := (List.getElem?_eq_some_iff.1 hk).1
      have := FJ.out.len
      obtain ⟨z1, z2⟩ := FJ.out.at_ k y hk
      rw [if_pos (by omega)] at z2
      exact ⟨z1, z2⟩
    clear FJ
    by_cases hO9 : O = 0
    · have hO8 : (O : Int) = 0 := by omega
      have KW := Lib.hid (known_any wr)
      have CR : Hid (Chg [] w wr) := RJ.out.ch
      clear RJ F4
      go_wp2_with fail
      refine KW.out.mono ?_
      rintro e wk ⟨rfl, CK⟩
      have CC := Lib.hid (CR.out.trans CK.out)
      clear KW CR CK
      go_wp2_with fail
      go_ret
      exact ⟨rfl, CC⟩
    have hO8 : ¬ (O : Int) = 0 := by omega
    have HO9 := Lib.hid hO9
    clear hO9
    obtain ⟨da, hda, qa1, qa2, qa3⟩ := F4.out.get (k := A) (by omega)
    clear qa3
    have bst := RJ.out.st da (List.mem_of_getElem? hda)
    have hal : A < dj.length := (List.getElem?_eq_some_iff.1 hda).1
    obtain ⟨d2, hd2⟩ : ∃ d2 : BalD, d2 = { da with s := { da.s with ev := O } } := ⟨_, rfl⟩
    obtain ⟨d3, hd3⟩ : ∃ d3 : BalD, d3 = { da with s := { da.s with ev := O, safe := O } } := ⟨_, rfl⟩
    obtain ⟨R2, f2⟩ := RJ.out.set (i := A) (j := 2) (d := da) (d' := d2) (u := .int .u64 (O : Int)) hda (by decide) (by rw [hd2]; rfl) (by rw [hd2]; exact ⟨bst.1, bst.2.1, ⟨bst.2.2.id, by show O < _; omega, bst.2.2.safe, bst.2.2.role, bst.2.2.m, bst.2.2.c, bst.2.2.t, bst.2.2.ring, bst.2.2.cur, bst.2.2.st⟩⟩)
    have g2 := RJ.out.cell (i := A) (j := 2) (d := da) hda (by decide) rfl
    replace R2 := Lib.hid R2
    go_upto_region 13 with fail
    clear f2 g2 RJ bst
    generalize wr.setCell ⟨G, A * 13 + 2, none⟩ (.int .u64 (O : Int)) = w2 at *
    clear wr
    have ha2 : (dj.set A d2)[A]? = some d2 := by rw [List.getElem?_set, if_pos rfl, if_pos hal]
    have bst2 := R2.out.st d2 (List.mem_of_getElem? ha2)
    obtain ⟨R3, f3⟩ := R2.out.set (i := A) (j := 3) (d := d2) (d' := d3) (u := .int .u64 (O : Int)) ha2 (by decide) (by rw [hd2, hd3]; rfl) (by rw [hd3]; rw [hd2] at bst2; exact ⟨bst2.1, bst2.2.1, ⟨bst2.2.2.id, bst2.2.2.ev, by show O < _; omega, bst2.2.2.role, bst2.2.2.m, bst2.2.2.c, bst2.2.2.t, bst2.2.2.ring, bst2.2.2.cur, bst2.2.2.st⟩⟩)
    have g3 := R2.out.cell (i := A) (j := 3) (d := d2) ha2 (by decide) rfl
    rw [List.set_set] at R3
    replace R3 := Lib.hid R3
    have F3 : Hid (Vt.Four (dj.set A d3) (fun _ => true) (fun k => if k = A then O else E) (fun k => if k = A then O else S) (fun _ => [1, 1, 1])) := by
      refine F4.out.set ⟨by rw [hd3]; exact qa1, ?_⟩ (fun k hk => ⟨rfl, if_neg hk, if_neg hk, rfl⟩)
      rw [if_pos rfl, if_pos rfl, hd3]
      simp only [qa2]
      rfl
    go_upto_region 14 with fail
    clear f3 g3 R2 F4 hda qa1 qa2 bst2 ha2 hd2 hal
    generalize w2.setCell ⟨G, A * 13 + 3, none⟩ (.int .u64 (O : Int)) = w3 at *
    clear w2 d2
    obtain ⟨ds3, hds3⟩ : ∃ ds3, ds3 = dj.set A d3 := ⟨_, rfl⟩
    rw [← hds3] at R3 F3
    clear hds3 hd3
    clear d3 da dj
    obtain ⟨d5, hd5, q1, q2, q3⟩ := F3.out.get (k := A) (by omega)
    clear q3
    by_cases hK3 : K < 3
    · have hK4 : (K : Int) < 3 := by omega
      obtain ⟨d4, p1, p2, f1, ⟨g1, g2⟩, g3, f2, ⟨g4, g5⟩, RZ⟩ := R3.out.restate (b := K) (x := 2) hd5 hK3 (by decide)
      replace RZ := Lib.hid RZ
      have FZ : Hid (Vt.Four (ds3.set A d4) (fun _ => true) (fun k => if k = A then O else E) (fun k => if k = A then O else S) (fun k => if k = A then ([1, 1, 1] : List Int).set K 2 else [1, 1, 1])) := by
        refine F3.out.set ⟨by rw [p1, q1], ?_⟩ (fun k hk => ⟨rfl, rfl, rfl, if_neg hk⟩)
        rw [p2, q2, if_pos rfl, if_pos rfl, if_pos rfl]
      clear hd5 q1 q2 p1 p2 R3 F3
      go_upto_region 17 with fail
      clear f1 g2 g3 f2 g5
      generalize (((w3.alloc (.cells #[.int .u8 1, .int .u8 1, .int .u8 1] 37)).setCell ⟨G, A * 13 + 11, none⟩ (.slice (some ⟨w3.heap.size, 0, none⟩) 3 3)).setCell ⟨w3.heap.size, K, none⟩ (.int .u8 2)) = wz at *
      obtain ⟨ER, OE, OL, OM, OC⟩ := Vt.stale_ok (n := E) (s := S) (old := O) (m := A) (sts := (([1, 1, 1] : List Int).set K 2)) FZ.out (by omega) (by omega) (by omega) (by omega) (by omega) hA (by rw [List.length_set]; rfl) (by intro y hy; rcases List.mem_or_eq_of_mem_set hy with hy | rfl; (simp at hy; omega); decide) (by have h9 : K = 0 ∨ K = 1 ∨ K = 2 := (by omega); rcases h9 with rfl | rfl | rfl <;> decide)
      have c3 := Lib.hid (choose_any _ _ wz (RZ.out.bals (by rw [FZ.out.len]; decide)))
      have CZ : Hid (Chg [] w wz) := RZ.out.ch
      unfold Chose at c3
      rw [ER, OC] at c3
      have OE2 : (((Vt.out (ds3.set A d4)).ev : Nat) : Int) = EI := by rw [OE]; exact HEI.out
      clear ER OE OC FZ RZ
      generalize Vt.jn (ds3.set A d4) = JB at *
      generalize hZ : Vt.out (ds3.set A d4) = Z at *
      clear hZ
      go_wp2_with fail
      refine c3.out.mono ?_
      rintro e w8 ⟨q3, rfl, O3, C8⟩
      rw [OL] at O3
      obtain ⟨x5, y5, rfl⟩ := owns_slice O3.out
      obtain ⟨gZ, rfl⟩ := owns_head O3.out (by decide)
      have zm : ∀ W, Chg [] w8 W → W.cell? ⟨gZ, A, none⟩ = some (.int .u8 2) := fun W c => ownsRow_cellAt (owns_chg O3.out c (by simp)) (by rw [List.getElem?_map, OM]; rfl)
      replace zm := Lib.hid zm
      have C8' := Lib.hid (CZ.out.trans C8.out)
      unfold verdV verdCells
      rw [OE2]
      clear c3 C8 O3 CZ OE2 OL OM
      obtain ⟨w9, hw9⟩ : ∃ w9, w9 = w8.alloc (.cells #[.int .u64 (Z.id : Int), .int .u64 EI, .int .u64 (Z.safe : Int), .int .i64 Z.role, .int .i64 Z.m, .int .i64 Z.c, .int .i64 Z.t, .int .i64 Z.ring, .bool Z.lazy, .bool Z.lost, .slice (some ⟨gZ, 0, none⟩) 3 y5, .int .i64 Z.cur, .bool true, .bool JB] 31) := ⟨_, rfl⟩
      have V9 : Hid (Blk w9 w8.heap.size 31 [.int .u64 (Z.id : Int), .int .u64 EI, .int .u64 (Z.safe : Int), .int .i64 Z.role, .int .i64 Z.m, .int .i64 Z.c, .int .i64 Z.t, .int .i64 Z.ring, .bool Z.lazy, .bool Z.lost, .slice (some ⟨gZ, 0, none⟩) 3 y5, .int .i64 Z.cur, .bool true, .bool JB]) := by show Blk _ _ _ _; rw [hw9]; exact Blk.made w8 _ _
      have C89 : Hid (Chg [] w8 w9) := by show Chg _ _ _; rw [hw9]; exact (Chg.refl _ _).alloc _
      have C9 := Lib.hid (C8'.out.trans C89.out)
      replace hw9 := Lib.hid hw9
      clear C8'
      have KW := Lib.hid (known_any w9)
      go_wp2_with fail
      rw [← hw9.out]
      refine KW.out.mono ?_
      rintro e wk ⟨rfl, CK⟩
      have CC := Lib.hid (C9.out.trans CK.out)
      have z1 := (V9.out.chg CK.out (by simp)).cell (j := 1) rfl
      have z10 := (V9.out.chg CK.out (by simp)).cell (j := 10) rfl
      have z12 := (V9.out.chg CK.out (by simp)).cell (j := 12) rfl
      have zA := zm.out wk (C89.out.trans CK.out)
      clear KW V9 hw9 C9 CK zm C89
      go_wp2_with fail
      go_ret
      exact ⟨by simp, CC⟩
    · have hK4 : ¬ (K : Int) < 3 := by omega
      obtain ⟨d4, p1, p2, f1, ⟨g1, g2⟩, RZ⟩ := R3.out.renew hd5
      replace RZ := Lib.hid RZ
      have FZ : Hid (Vt.Four (ds3.set A d4) (fun _ => true) (fun k => if k = A then O else E) (fun k => if k = A then O else S) (fun k => if k = A then [1, 1, 1] else [1, 1, 1])) := by
        refine F3.out.set ⟨by rw [p1, q1], ?_⟩ (fun k hk => ⟨rfl, rfl, rfl, by simp⟩)
        rw [p2, q2, if_pos rfl, if_pos rfl, if_pos rfl]
      clear hd5 q1 q2 p1 p2 R3 F3
      go_upto_region 17 with fail
      clear f1 g2
      generalize ((w3.alloc (.cells #[.int .u8 1, .int .u8 1, .int .u8 1] 37)).setCell ⟨G, A * 13 + 11, none⟩ (.slice (some ⟨w3.heap.size, 0, none⟩) 3 3)) = wz at *
      obtain ⟨ER, OE, OL, OM, OC⟩ := Vt.stale_ok (n := E) (s := S) (old := O) (m := A) (sts := [1, 1, 1]) FZ.out (by omega) (by omega) (by omega) (by omega) (by omega) hA rfl (by intro y hy; simp at hy; omega) (by decide)
      have c3 := Lib.hid (choose_any _ _ wz (RZ.out.bals (by rw [FZ.out.len]; decide)))
      have CZ : Hid (Chg [] w wz) := RZ.out.ch
      unfold Chose at c3
      rw [ER, OC] at c3
      have OE2 : (((Vt.out (ds3.set A d4)).ev : Nat) : Int) = EI := by rw [OE]; exact HEI.out
      clear ER OE OC FZ RZ
      generalize Vt.jn (ds3.set A d4) = JB at *
      generalize hZ : Vt.out (ds3.set A d4) = Z at *
      clear hZ
      go_wp2_with fail
      refine c3.out.mono ?_
      rintro e w8 ⟨q3, rfl, O3, C8⟩
      rw [OL] at O3
      obtain ⟨x5, y5, rfl⟩ := owns_slice O3.out
      obtain ⟨gZ, rfl⟩ := owns_head O3.out (by decide)
      have zm : ∀ W, Chg [] w8 W → W.cell? ⟨gZ, A, none⟩ = some (.int .u8 2) := fun W c => ownsRow_cellAt (owns_chg O3.out c (by simp)) (by rw [List.getElem?_map, OM]; rfl)
      replace zm := Lib.hid zm
      have C8' := Lib.hid (CZ.out.trans C8.out)
      unfold verdV verdCells
      rw [OE2]
      clear c3 C8 O3 CZ OE2 OL OM
      obtain ⟨w9, hw9⟩ : ∃ w9, w9 = w8.alloc (.cells #[.int .u64 (Z.id : Int), .int .u64 EI, .int .u64 (Z.safe : Int), .int .i64 Z.role, .int .i64 Z.m, .int .i64 Z.c, .int .i64 Z.t, .int .i64 Z.ring, .bool Z.lazy, .bool Z.lost, .slice (some ⟨gZ, 0, none⟩) 3 y5, .int .i64 Z.cur, .bool true, .bool JB] 31) := ⟨_, rfl⟩
      have V9 : Hid (Blk w9 w8.heap.size 31 [.int .u64 (Z.id : Int), .int .u64 EI, .int .u64 (Z.safe : Int), .int .i64 Z.role, .int .i64 Z.m, .int .i64 Z.c, .int .i64 Z.t, .int .i64 Z.ring, .bool Z.lazy, .bool Z.lost, .slice (some ⟨gZ, 0, none⟩) 3 y5, .int .i64 Z.cur, .bool true, .bool JB]) := by show Blk _ _ _ _; rw [hw9]; exact Blk.made w8 _ _
      have C89 : Hid (Chg [] w8 w9) := by show Chg _ _ _; rw [hw9]; exact (Chg.refl _ _).alloc _
      have C9 := Lib.hid (C8'.out.trans C89.out)
      replace hw9 := Lib.hid hw9
      clear C8'
      have KW := Lib.hid (known_any w9)
      go_wp2_with fail
      rw [← hw9.out]
      refine KW.out.mono ?_
      rintro e wk ⟨rfl, CK⟩
      have CC := Lib.hid (C9.out.trans CK.out)
      have z1 := (V9.out.chg CK.out (by simp)).cell (j := 1) rfl
      have z10 := (V9.out.chg CK.out (by simp)).cell (j := 10) rfl
      have z12 := (V9.out.chg CK.out (by simp)).cell (j := 12) rfl
      have zA := zm.out wk (C89.out.trans CK.out)
      clear KW V9 hw9 C9 CK zm C89
      go_wp2_with fail
      go_ret
      exact ⟨by simp, CC⟩

theorem voteStale_walk (a0 x1 x2 x3 x4 : Int) (h0 : 0 ≤ a0 ∧ a0 ≤ 65535) (h1 : 0 ≤ x1 ∧ x1 ≤ 65535) (h2 : 0 ≤ x2 ∧ x2 ≤ 255) (h3 : 0 ≤ x3 ∧ x3 ≤ 255) (h4 : 0 ≤ x4 ∧ x4 ≤ 65535) (w : World) :
    Calls Try.prog 4 #[.int .u16 a0, .int .u16 x1, .int .u8 x2, .int .u8 x3, .int .u16 x4] w fun e w' => e = .returned (.bool true) ∧ Chg [] w w' :=
  (voteStale_core a0 x1 x2 x3 x4 h0 h1 h2 h3 h4 w).mono (fun _ _ h => ⟨h.1, h.2.out⟩)

end Go.Proofs.Ytffpjefecmkfmaa
