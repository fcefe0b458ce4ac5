/-
  The document's layout of blocks: Members. By an AI agent.
-/
import Derived.Test.YtheplbjlfkjncaaRefGeom2
import Derived.Test.YtheplbjlfkjncaaGGrow
namespace Go.Proofs.Ytheplbjlfkjncaa
open Go.RowKit

theorem info_gint : (Try.prog.info? 3).map (fun i => (i.zero, i.size, i.bytes)) = some (some (.int .i64 0), 1, 8) := by kernel_rfl

theorem range_snoc (f : Nat → Nat) (d : Nat) : (ints ((List.range d).map f)).map (Value.int .i64) ++ [.int .i64 (f d : Int)] = (ints ((List.range (d + 1)).map f)).map (Value.int .i64) := by
  rw [List.range_succ]
  simp [ints]

set_option maxHeartbeats 2000000 in
set_option maxRecDepth 100000 in
theorem rgmembers_in (g : Gm) (hg : g.Ok) (w : World) (r : Nat) (hr : r < g.rows) : Calls Try.prog 15 #[.agg #[.int .i64 (g.n : Int), .int .i64 (g.k : Int), .int .i64 (g.s : Int)], .int .i64 (r : Int)] w (SaysList w (g.list (g.par (r / g.k))) (.int .i64 0)) := by
  obtain ⟨i0, ki, kz0, kz1, kz2⟩ := info_parts info_gint
  replace ki := Lib.hid ki
  replace kz0 := Lib.hid kz0
  replace kz1 := Lib.hid kz1
  replace kz2 := Lib.hid kz2
  have BX := Blk.made w [.int .i64 (g.n : Int), .int .i64 (g.k : Int), .int .i64 (g.s : Int)] 23
  have H0 : Hid (Side w (w.alloc (.cells #[.int .i64 (g.n : Int), .int .i64 (g.k : Int), .int .i64 (g.s : Int)] 23)) [blkT w.heap.size 23 [.int .i64 (g.n : Int), .int .i64 (g.k : Int), .int .i64 (g.s : Int)]]) :=
    (Side.nil (Chg.refl [] w)).add ((Chg.refl _ _).alloc _) BX (fun k hk => by rw [List.mem_singleton.1 hk]; exact Nat.le_refl _)
  have PR := Lib.hid (rgparity_in g hg (w.alloc (.cells #[.int .i64 (g.n : Int), .int .i64 (g.k : Int), .int .i64 (g.s : Int)] 23)) r hr)
  have hn := hg.n
  obtain ⟨n, hnn⟩ : ∃ n, n = g.n := ⟨_, rfl⟩
  obtain ⟨p, hp⟩ : ∃ p, p = g.par (r / g.k) := ⟨_, rfl⟩
  have hpl : p < n := by rw [hp, hnn]; exact Gm.par_lt (by omega) _
  have LL : Hid (g.list p = (List.range (n - 1)).map (g.mem p)) := by rw [hnn]; rfl
  have MM : Hid (∀ d, g.mem p d = (p + 1 + d) % n) := fun d => by rw [hnn]; rfl
  rw [← hp] at PR ⊢
  rw [← hnn] at hn PR H0 ⊢
  generalize (g.k : Int) = k at *
  generalize (g.s : Int) = s at *
  have hn0 : (0 : Int) ≤ n := Int.natCast_nonneg _
  have hn1 : (n : Int) ≤ 16 := by omega
  have hp0 : (0 : Int) ≤ p := Int.natCast_nonneg _
  have hp1 : (p : Int) < n := by omega
  obtain ⟨D, hD⟩ : ∃ D, D = n - 1 := ⟨_, rfl⟩
  have e0 : (n : Int) - 1 = (D : Int) := by omega
  obtain ⟨A, hA⟩ : ∃ A, A = p + 1 := ⟨_, rfl⟩
  have e1 : (p : Int) + 1 = (A : Int) := by omega
  have hDl : D ≤ 15 := by omega
  have hAl : A ≤ 16 := by omega
  have nz : ¬ (n : Int) = 0 := by omega
  obtain ⟨w1', w2'⟩ := wrap_small (x := D) (Nat.le_trans hDl (by decide))
  obtain ⟨w3', w4'⟩ := wrap_small (x := A) (Nat.le_trans hAl (by decide))
  rw [← hD] at LL
  replace hp := Lib.hid hp
  replace hnn := Lib.hid hnn
  replace hA := Lib.hid hA
  replace hD := Lib.hid hD
  clear hg BX hr
  go_enter Try.func15, Try.ntmps15
  go_wp2_with fail
  refine PR.out.mono ?_
  rintro e w1 ⟨rfl, C⟩
  have H : Hid (Side w w1 [ownT 3 (.slice none 0 0) ((ints ((List.range 0).map (g.mem p))).map (Value.int .i64)), blkT w.heap.size 23 [.int .i64 (n : Int), .int .i64 k, .int .i64 s]]) := (H0.out.quiet C.out).own (n := 0) (World.ownsRow_nil _ _ _ _) (Chg.refl _ _)
  clear PR C H0
  go_wp2_with fail
  go_loopw [8, 9] (fun l i wr => ∃ d : Nat, d ≤ D ∧ i = .int .i64 (d : Int) ∧ Hid (Side w wr [ownT 3 l ((ints ((List.range d).map (g.mem p))).map (Value.int .i64)), blkT w.heap.size 23 [.int .i64 (n : Int), .int .i64 k, .int .i64 s]])) (fun _ i _ => D - (intOf i).toNat)
  case atStart => exact ⟨0, Nat.zero_le _, rfl, H⟩
  case round =>
    obtain ⟨d, hd, rfl, HH⟩ := hrel
    clear H
    have H := HH
    clear HH
    have hd0 : (0 : Int) ≤ d := Int.natCast_nonneg _
    have c0 := (H.out.get 1 rfl : Blk _ _ _ _).cell (j := 0) rfl
    by_cases hlt : d < D
    · have hd1 : (d : Int) < D := by omega
      obtain ⟨B, hB⟩ : ∃ B, B = A + d := ⟨_, rfl⟩
      have e2 : (A : Int) + (d : Int) = (B : Int) := by omega
      have hBl : B ≤ 1000000 := by omega
      obtain ⟨w5', w6'⟩ := wrap_small hBl
      obtain ⟨M, hM⟩ : ∃ M, M = g.mem p d := ⟨_, rfl⟩
      have hMl : M < n := by rw [hM, MM.out]; exact Nat.mod_lt _ (by omega)
      obtain ⟨w7', w8'⟩ := wrap_small (x := M) (Nat.le_trans (Nat.le_of_lt hMl) (Nat.le_trans hn.2 (by decide)))
      have e3 : Int.tmod (B : Int) (n : Int) = (M : Int) := by rw [hM, MM.out, hB, hA.out]; rfl
      have RS : Hid ((ints ((List.range d).map (g.mem p))).map (Value.int .i64) ++ [.int .i64 (M : Int)] = (ints ((List.range (d + 1)).map (g.mem p))).map (Value.int .i64)) := by rw [hM]; exact range_snoc _ _
      have XL : Hid (((ints ((List.range d).map (g.mem p))).map (Value.int .i64)).length = d) := by show _ = _; simp [ints]
      obtain ⟨xs, hxs⟩ : ∃ xs, xs = (ints ((List.range d).map (g.mem p))).map (Value.int .i64) := ⟨_, rfl⟩
      rw [← hxs] at H RS XL
      replace hB := Lib.hid hB
      replace hM := Lib.hid hM
      clear hxs hBl
      have BP := Blk.made wr [.int .i64 (M : Int)] 3
      have H6 := Lib.hid (H.out.quiet ((Chg.refl [] wr).alloc (.cells #[.int .i64 (M : Int)] 3)))
      go_wp2_with ((with_reducible refine wpList_append_three _ rfl (.tmp 26) (.tmp 34) 33 rfl 0 3 i0 (.int .i64 0) 1 8 Try.underlying33 ki.out kz0.out kz1.out kz2.out rfl (by decide) _ xs.length xs rfl (H6.out.get 0 rfl : World.ownsRow _ 0 _ _ _ _ _) ⟨wr.heap.size, 0, none⟩ 1 1 [.int .i64 (M : Int)] rfl rfl (fun j u hu => by rw [Addr.add_lit, Nat.zero_add]; exact BP.cell hu) (by simp [Value.oneCell']) (by rw [XL.out]; unfold maxLen; omega) (by rw [XL.out]; omega) (Nat.zero_le _) ?_); intro v7 w7 ol gr nb; have H7 := Lib.hid (H6.out.longer ol.out gr.out (nb.out.imp id (fun q => q.1))); clear ol gr nb)
      rw [RS.out] at H7
      clear BP H6 H c0 RS XL
      go_wp2_with fail
      exact ⟨⟨d + 1, by omega, by first | rfl | go_num, H7⟩, by simp [intOf]; omega⟩
    · obtain rfl : D = d := by omega
      have hd1 : ¬ (D : Int) < D := by omega
      have T : Hid (wr.ownsRow 0 3 1 u8 (g.list p).length ((ints (g.list p)).map (Value.int .i64))) := by
        have o : wr.ownsRow 0 3 1 u8 ((ints ((List.range D).map (g.mem p))).map (Value.int .i64)).length ((ints ((List.range D).map (g.mem p))).map (Value.int .i64)) := H.out.get 0 rfl
        rw [← LL.out, List.length_map, ints_length] at o
        exact o
      have TN : Hid (∀ q, u8.ownBlock = some q → w.heap.size ≤ q) := fun q hq => H.out.new _ (List.mem_of_getElem? (rfl : [ownT 3 u8 ((ints ((List.range D).map (g.mem p))).map (Value.int .i64)), blkT w.heap.size 23 [.int .i64 (n : Int), .int .i64 k, .int .i64 s]][0]? = some _)) q (by simp [ownT, hq])
      have CW := Lib.hid H.out.chg
      obtain ⟨lo, lc, rfl⟩ := owns_slice T.out
      have FIN : Hid (wr.ownsRow w.heap.size 3 1 (.slice lo (g.list p).length lc) (g.list p).length ((ints (g.list p)).map (Value.int .i64))) := by
        refine ⟨T.out.1, ?_⟩
        rcases T.out.2 with h | ⟨a, cap, cur, h1, h2, h3⟩
        · exact .inl h
        · exact .inr ⟨a, cap, cur, h1, TN.out a (by rw [h1]; rfl), h3⟩
      clear H T TN MM LL
      go_wp2_with fail
      go_ret2
      exact ⟨_, rfl, FIN, CW⟩

end Go.Proofs.Ytheplbjlfkjncaa
