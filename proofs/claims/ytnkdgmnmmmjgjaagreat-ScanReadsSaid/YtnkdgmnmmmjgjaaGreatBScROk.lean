/-
  The document's Of, of a ring and a checkpoint that are as they should be. By an AI agent.
-/
import Derived.Test.YtnkdgmnmmmjgjaaGreatBScROf
namespace Go.Proofs.YtnkdgmnmmmjgjaaGreat
open Crc Go.RowKit

def usedOf (f : Nat) (w : World) : Nat := match w.cell? ⟨f, 3, none⟩ with | some (.int _ z) => z.toNat | _ => 0

theorem usedOf_eq {f : Nat} {w : World} {u : Nat} (h : w.cell? ⟨f, 3, none⟩ = some (.int .i64 (u : Int))) : usedOf f w = u := by
  unfold usedOf
  rw [h]
  rfl

theorem Sc.Got.len_le {ring : List Nat} {ep at_ sq u : Nat} {L : List (List Pd)} (h : Sc.Got ring ep at_ sq L u) : L.length ≤ u := by
  induction h with
  | nil => exact Nat.le_refl _
  | more h k ih => rw [List.length_append, List.length_singleton]; omega

/-- What came out stands beside what was there. -/
theorem Side.beside {w0 w w' : World} {us ts : List Thing} (h : Side w0 w ts) (k : Side w w' us) : Side w0 w' (us ++ ts) :=
  Side.swap (olds := []) (bs := us) h k.chg (fun k hk => by cases hk) k.each (fun x hx j hj => .inr (k.new x hx j hj)) k.apart

def ckV (ep sq tl : Nat) : List Value := [.int .u64 (ep : Int), .int .u64 (sq : Int), .int .i64 (tl : Int)]
def fdV (tv : Value) (nx hd us : Nat) : List Value := [tv, .int .u64 (nx : Int), .int .i64 (hd : Int), .int .i64 (us : Int)]

set_option maxHeartbeats 8000000 in
set_option maxRecDepth 100000 in
theorem rof_ok {n ep sq tl : Nat} {bs : List Nat} (h : OfOk n ep sq tl bs) (hbs : Bs bs) (rb ro cap : Nat) (w : World) (hcap : 128 * n ≤ cap) (hsl : Sl w (.slice (some ⟨rb, ro, none⟩) (128 * n) cap) (ints bs)) :
    Calls Tryz.prog 19 #[.slice (some ⟨rb, ro, none⟩) (128 * n) cap, .agg #[.int .u64 (ep : Int), .int .u64 (sq : Int), .int .i64 (tl : Int)]] w (ROfGives w bs n ep sq tl) := by
  have q1 : Int.tdiv (((128 * n : Nat)) : Int) 128 = (n : Int) := by
    have : Int.tdiv (((128 * n : Nat)) : Int) 128 = (((128 * n) / 128 : Nat) : Int) := rfl
    rw [this]; omega
  have q2 : (((128 * n : Nat)) : Int) / 128 = (n : Int) := by omega
  have q3 : Int.tmod (((128 * n : Nat)) : Int) 128 = 0 := by
    have : Int.tmod (((128 * n : Nat)) : Int) 128 = (((128 * n) % 128 : Nat) : Int) := rfl
    rw [this]; omega
  have q4 : (((128 * n : Nat)) : Int) % 128 = 0 := by omega
  have hlo := h.lo
  have hhi := h.hi
  have htl := h.tl
  have hlen : bs.length / 128 = n := by rw [h.len, Nat.mul_div_cancel_left n (by decide)]
  have hep : ep ≤ 4611686018427387904 := h.ok.1.1
  have hsq : sq ≤ 4611686018427387904 := h.ok.1.2.2
  have HLEN := Lib.hid hlen
  have CK : Hid (∀ w, Calls Tryz.prog 51 #[.agg #[.int .u64 (ep : Int), .int .u64 (sq : Int), .int .i64 (tl : Int)]] w fun e w' => (∃ v, e = .returned (.tuple #[v, .int .i64 0])) ∧ Hid (Chg [] w w')) := fun w => by
    refine (rEncodeCheck_any ⟨ep, sq, (tl : Int)⟩ w trivial).mono ?_
    rintro e w' ⟨v, rfl, _, c⟩
    refine ⟨⟨v, ?_⟩, c⟩
    unfold Ck.err
    rw [if_pos h.ok]
  have BAT : Hid (∀ (hd R nx : Nat) W, hd < n → R ≤ n → nx ≤ 4611686018427391000 → Chg [] w W → Calls Tryz.prog 52 #[.slice (some ⟨rb, ro, none⟩) (128 * n) cap, .int .i64 (hd : Int), .int .i64 (R : Int), .int .u64 (ep : Int), .int .u64 (nx : Int)] W (RBat W bs hd R ep nx)) := fun hd R nx W h1 h2 h3 c =>
    rbatch_any rb ro cap n hd R ep nx bs W (by omega) hhi hcap h.len hbs (by omega) (by omega) (by omega) (by omega) (hsl.chgNil c)
  have CA : Hid (Side w ((w.alloc (.cells #[.int .u64 (ep : Int), .int .u64 (sq : Int), .int .i64 (tl : Int)] 57)).alloc (.cells #[.slice none 0 0, .int .u64 0, .int .i64 0, .int .i64 0] 61)) [blkT w.heap.size 57 (ckV ep sq tl), blkT (w.heap.size + 1) 61 (fdV (.slice none 0 0) 0 0 0)]) := by
    have h1 := (Side.nil (Chg.refl [] w)).box (ckV ep sq tl) 57
    have h2 := h1.box (fdV (.slice none 0 0) 0 0 0) 61
    rw [World.size_alloc] at h2
    exact h2.front 1
  obtain ⟨LN, hLN⟩ : ∃ LN, LN = 128 * n := ⟨_, rfl⟩
  rw [← hLN] at q1 q2 q3 q4 BAT ⊢
  have bN : Hid (n ≤ 1000000) := by show _ ≤ _; omega
  have bT : Hid (tl ≤ 1000000) := by show _ ≤ _; omega
  have c2 : ¬ n < 5 := by omega
  have c3 : ¬ 2048 < n := by omega
  have c5 : ¬ n ≤ tl := by omega
  have t2 : ¬ (n : Int) < 5 := by omega
  have t3 : ¬ (2048 : Int) < n := by omega
  have t5 : ¬ (n : Int) ≤ (tl : Int) := by omega
  have d2 : decide ((n : Int) < 5) = false := decide_eq_false t2
  have d3 : decide ((2048 : Int) < n) = false := decide_eq_false t3
  have d5 : decide ((n : Int) ≤ (tl : Int)) = false := decide_eq_false t5
  have HNN : Hid (5 ≤ n ∧ n ≤ 2048 ∧ tl < n ∧ sq ≤ 4611686018427387904) := ⟨hlo, hhi, htl, hsq⟩
  clear hLN hcap hsl h hlen hlo hhi htl hep hsq hbs
  have v1 := wrap_nat bN.out
  go_enter Tryz.func19, Tryz.ntmps19
  go_wp2_with (first | (go_at_call 51; refine (CK.out _).mono ?_; rintro e w1 ⟨⟨vv, rfl⟩, C1⟩; have H1 := Lib.hid (CA.out.quiet C1.out); have bX : Blk w1 w.heap.size 57 _ := H1.out.get 0 rfl; have x1 := bX.cell (j := 1) rfl; have x2 := bX.cell (j := 2) rfl; clear bX))
  obtain ⟨f, hf⟩ : ∃ f, f = w1.heap.size := ⟨_, rfl⟩
  obtain ⟨g, hg⟩ : ∃ g, g = w.heap.size := ⟨_, rfl⟩
  obtain ⟨Wb, hWb⟩ : ∃ Wb, Wb = w1.alloc (.cells #[.slice none 0 0, .int .u64 (sq : Int), .int .i64 (tl : Int), .int .i64 0] 61) := ⟨_, rfl⟩
  have HB : Hid (Side w Wb (blkT f 61 (fdV (.slice none 0 0) sq tl 0) :: wideT 2 25 (.slice none 0 0) (txSlots sq []) :: poolWT 3 72 (listsOf []) :: poolT (dataOf []) :: [blkT g 57 (ckV ep sq tl), blkT (g + 1) 61 (fdV (.slice none 0 0) 0 0 0)])) := by
    have a2 := H1.out.add (b := poolT []) (Chg.refl _ _) (Pool.nil _) (fun k hk => by cases hk)
    have a3 := a2.add (b := poolWT 3 72 []) (Chg.refl _ _) (PoolW.nil _ _ _) (fun k hk => by cases hk)
    have a4 := a3.add (b := wideT 2 25 (.slice none 0 0) []) (Chg.refl _ _) (OwnW.nil _ _ _ _) (fun k hk => by cases hk)
    have a5 := a4.box (fdV (.slice none 0 0) sq tl 0) 61
    rw [hWb, hf, hg]
    exact a5
  rw [← hWb, ← hf, ← hg]
  clear hWb hf hg H1 C1 x1 x2 CA CK v1 t2 t3 t5 c2 c3 c5 d2 d3 d5 q1 q2 q3 q4
  obtain ⟨i0, hi, hz0, hz1, hz2⟩ := info_parts info_txn
  replace hi := Lib.hid hi
  replace hz0 := Lib.hid hz0
  replace hz1 := Lib.hid hz1
  replace hz2 := Lib.hid hz2
  go_loopw [11] (fun _ wr => ∃ (T : List Tx) (u hd : Nat) (tv : Value), Hid (Sc.Got bs ep tl sq (found T) u) ∧ Hid (hd = (tl + u) % n) ∧ Hid (Side w wr (blkT f 61 (fdV tv (sq + T.length) hd u) :: wideT 2 25 tv (txSlots sq T) :: poolWT 3 72 (listsOf T) :: poolT (dataOf T) :: [blkT g 57 (ckV ep sq tl), blkT (g + 1) 61 (fdV (.slice none 0 0) 0 0 0)]))) (fun _ wr => n - usedOf f wr)
  case atStart => exact ⟨[], 0, tl, .slice none 0 0, .nil, (Nat.mod_eq_of_lt HNN.out.2.2.1).symm, HB⟩
  case round =>
    obtain ⟨T, u, hd, tv, G, HD, H⟩ := hrel
    clear HB
    obtain ⟨h5, hn2, ht2, hs2⟩ := HNN.out
    have hun : u ≤ n := by have k := G.out.fits; rw [HLEN.out] at k; exact k
    have hTl : T.length ≤ u := by have k := G.out.len_le; rw [found_len] at k; exact k
    have hhd : hd < n := by rw [HD.out]; exact Nat.mod_lt _ (by omega)
    have OT := (show OwnW 2 wr 0 25 tv (txSlots sq T) from H.out.get 1 rfl)
    obtain ⟨ta, tc, htv⟩ := OT.slice
    rw [txSlots_len] at htv
    subst htv
    obtain ⟨t, hte⟩ : ∃ t, t = T.length := ⟨_, rfl⟩
    obtain ⟨nx, hnx⟩ : ∃ nx, nx = sq + t := ⟨_, rfl⟩
    rw [← hte, ← hnx] at H
    obtain ⟨R, hR⟩ : ∃ R, R = n - u := ⟨_, rfl⟩
    have e1 : (n : Int) - (u : Int) = (R : Int) := by omega
    have bR : Hid (R ≤ 1000000) := by show _ ≤ _; omega
    have BA := Lib.hid (BAT.out hd R nx wr hhd (by omega) (by omega) H.out.chg)
    have HT := Lib.hid hte
    have HNX := Lib.hid hnx
    have HR := Lib.hid hR
    have HU : Hid (u ≤ n ∧ t ≤ u ∧ hd < n) := ⟨hun, by omega, hhd⟩
    have NEXT : Hid (∀ m, Sc.Whole bs hd R ep nx m ↔ Sc.Whole bs (tl + u) (bs.length / 128 - u) ep (sq + (found T).length) m) := fun m => by
      rw [HD.out, hR, hnx, found_len, ← hte, HLEN.out, ← Sc.Whole.mod (at_ := tl + u), HLEN.out]
    clear h5 hn2 ht2 hs2 hun hTl hhd OT hte hnx hR
    have v1 := wrap_nat bR.out
    have bF : Blk wr f 61 _ := H.out.get 0 rfl
    have c1 := bF.cell (j := 1) rfl
    have c2 := bF.cell (j := 2) rfl
    have c3 := bF.cell (j := 3) rfl
    have bX : Blk wr g 57 _ := H.out.get 4 rfl
    have x0 := bX.cell (j := 0) rfl
    have MU : Hid (usedOf f wr = u) := usedOf_eq c3
    clear bF bX
    go_wp2_with fail
    refine BA.out.mono ?_
    clear c1 c2 c3 x0 v1
    rintro e w4 (⟨m, A, pv, WH, rfl, DA, HA⟩ | ⟨NW, rfl, C4⟩)
    case inr =>
      have H4 := Lib.hid ((H.out.quiet C4.out).quiet ((Chg.refl [] w4).alloc (.cells #[.int .u64 0, .slice none 0 0] 25)))
      have DN : Hid (Sc.Done bs ep tl sq (found T) u) := ⟨G.out, fun m k => NW m ((NEXT.out m).2 k)⟩
      clear NW C4 H BA
      have bF : Blk _ f 61 _ := H4.out.get 0 rfl
      have c0 := bF.cell (j := 0) rfl
      have c1 := bF.cell (j := 1) rfl
      have c2 := bF.cell (j := 2) rfl
      have c3 := bF.cell (j := 3) rfl
      have bG : Blk _ (g + 1) 61 _ := H4.out.get 5 rfl
      have y0 := bG.free 0
      have y1 := bG.free 1
      have y2 := bG.free 2
      have y3 := bG.free 3
      have k0 := bG.cell (j := 0) rfl
      have k1 := bG.cell (j := 1) rfl
      have k2 := bG.cell (j := 2) rfl
      have k3 := bG.cell (j := 3) rfl
      clear bF bG
      go_wp2_with fail
      (try simp only [Exit.inBlock, Exit.then]); show bodyPost _ _ _ Exit.ret ⟨_, []⟩ _
      have HF : Side w ((((w4.alloc (.cells #[.int .u64 0, .slice none 0 0] 25)).setCell ⟨g + 1, 0, none⟩ (.slice ta t tc)).setCell ⟨g + 1, 1, none⟩ (.int .u64 (nx : Int))).setCell ⟨g + 1, 2, none⟩ (.int .i64 (hd : Int)) |>.setCell ⟨g + 1, 3, none⟩ (.int .i64 (u : Int))) (blkT (g + 1) 61 (fdV (.slice ta t tc) nx hd u) :: wideT 2 25 (.slice ta t tc) (txSlots sq T) :: poolWT 3 72 (listsOf T) :: [poolT (dataOf T)]) := by
        have a1 : Side w (w4.alloc (.cells #[.int .u64 0, .slice none 0 0] 25)) (blkT (g + 1) 61 (fdV (.slice none 0 0) 0 0 0) :: wideT 2 25 (.slice ta t tc) (txSlots sq T) :: poolWT 3 72 (listsOf T) :: [poolT (dataOf T)]) := (H4.out.front 5).sub (.cons_cons _ (.cons _ (.cons_cons _ (.cons_cons _ (.cons_cons _ (List.nil_sublist _))))))
        have bg : Blk (w4.alloc (.cells #[.int .u64 0, .slice none 0 0] 25)) (g + 1) 61 (fdV (.slice none 0 0) 0 0 0) := a1.get 0 rfl
        exact a1.turnAt (b := blkT (g + 1) 61 (fdV (.slice ta t tc) nx hd u)) 0 rfl (s := [g + 1]) (((((Chg.refl [g + 1] (w4.alloc (.cells #[.int .u64 0, .slice none 0 0] 25))).setCell (p := ⟨g + 1, 0, none⟩) (.inl (by simp)) _).setCell (p := ⟨g + 1, 1, none⟩) (.inl (by simp)) _).setCell (p := ⟨g + 1, 2, none⟩) (.inl (by simp)) _).setCell (p := ⟨g + 1, 3, none⟩) (.inl (by simp)) _) (fun k hk => .inl hk) ((((bg.set 0 _).set 1 _).set 2 _).set 3 _) (fun k hk => .inl hk)
      refine bodyPost_ret (rc_cell_and_tmp (ty := 61) rfl _ _ (g + 1) _ _ _ _ rfl (HF.get 0 rfl : Blk _ (g + 1) 61 _) Tryz.underlying61 size_Fd) rfl ?_
      refine ⟨.slice ta t tc, T, u, DN.out, ?_, HF.tail⟩
      rw [← HT.out, ← HNX.out, ← HD.out]
      rfl
    have OP := (show OwnW 3 w4 0 72 pv (A.map pvSlot) from HA.out.get 0 rfl)
    obtain ⟨po, pc, hpv⟩ := OP.slice
    obtain ⟨ln, hln⟩ : ∃ ln, ln = (A.map pvSlot).length := ⟨_, rfl⟩
    rw [← hln] at hpv
    subst hpv
    obtain ⟨M, hM⟩ : ∃ M, M = 2 * m + 1 := ⟨_, rfl⟩
    have hroom := WH.room
    have hMu : u + M ≤ n := by have := HU.out.1; rw [HR.out] at hroom; omega
    have hM0 : ((M : Int) == 0) = false := by simp; omega
    have G2 : Hid (Sc.Got bs ep tl sq (found (T ++ [(.slice po ln pc, A)])) (u + M)) := by
      have k := Sc.Got.more G.out ((NEXT.out m).1 WH)
      have e : dOf A = Sc.pts bs (tl + u) m := by rw [DA, HD.out, ← HLEN.out, Sc.pts_mod]
      show Sc.Got _ _ _ _ _ _
      rw [found_snoc, e, hM]
      exact k
    have HM := Lib.hid hM
    have HMU := Lib.hid hMu
    rw [← hM]
    have H5 := Lib.hid ((H.out.beside HA.out).box [.int .u64 (nx : Int), .slice po ln pc] 25)
    clear OP hln hM hroom hMu NEXT WH DA HA H BA
    go_upto_region 9 with fail
    obtain ⟨W5, hW5⟩ : ∃ W5, W5 = w4.alloc (.cells #[.int .u64 (nx : Int), .slice po ln pc] 25) := ⟨_, rfl⟩
    obtain ⟨b, hb⟩ : ∃ b, b = w4.heap.size := ⟨_, rfl⟩
    have H5' : Hid (Side w W5 (blkT b 25 [.int .u64 (nx : Int), .slice po ln pc] :: listT (.slice po ln pc) A :: dataT A :: blkT f 61 (fdV (.slice ta t tc) nx hd u) :: wideT 2 25 (.slice ta t tc) (txSlots sq T) :: poolWT 3 72 (listsOf T) :: poolT (dataOf T) :: [blkT g 57 (ckV ep sq tl), blkT (g + 1) 61 (fdV (.slice none 0 0) 0 0 0)])) := by rw [hW5, hb]; exact H5.out
    rw [← hW5, ← hb]
    clear hW5 hb H5
    have R5 : Hid (Side w W5 (wideT 2 25 (.slice ta t tc) (txSlots sq T) :: blkT f 61 (fdV (.slice ta t tc) nx hd u) :: listT (.slice po ln pc) A :: dataT A :: poolWT 3 72 (listsOf T) :: poolT (dataOf T) :: [blkT g 57 (ckV ep sq tl), blkT (g + 1) 61 (fdV (.slice none 0 0) 0 0 0)])) := ((H5'.out.tail.front 2).front 3)
    have bB : Blk W5 b 25 _ := H5'.out.get 0 rfl
    have n0 := bB.cell (j := 0) rfl
    have n1 := bB.cell (j := 1) rfl
    have BF := Lib.hid (R5.out.get 1 rfl : Blk W5 f 61 _)
    have c0 := BF.out.cell (j := 0) rfl
    have OFFP : Hid ((Value.slice ta t tc).ownBlock ≠ some f) := fun e => (List.pairwise_cons.1 R5.out.apart).1 (blkT f 61 (fdV (.slice ta t tc) nx hd u)) List.mem_cons_self f (by show f ∈ (Value.slice ta t tc).ownBlock.toList; simp [e]) (by simp [blkT])
    have OR : Hid (W5.ownsRow 0 25 2 (.slice ta t tc) t (txSlots sq T).flatten) := by
      have o := (show OwnW 2 W5 0 25 (.slice ta t tc) (txSlots sq T) from R5.out.get 0 rfl).2
      rw [txSlots_len, ← HT.out] at o
      exact o
    have L3 : Hid (t + 1 ≤ maxLen) := by have := HU.out; have := HNN.out; show _ ≤ _; unfold maxLen; omega
    have L4 : Hid ((t + 1) * 32 ≤ 140737488355328) := by have := HU.out; have := HNN.out; show _ ≤ _; omega
    clear bB H5'
    go_upto_region 10 with (first
      | (at_builtin; (refine wpList_append_three _ rfl (.tmp 67) (.tmp 69) 59 rfl 0 25 i0 (.agg #[.int .u64 0, .slice none 0 0]) 2 32 Tryz.underlying59 hi.out hz0.out hz1.out hz2.out rfl (by decide) _ t _ rfl (OR.out.alloc _) ⟨W5.heap.size, 0, none⟩ 1 1 [.int .u64 (nx : Int), .slice po ln pc] rfl rfl (pair_new2 _ _ _ _) (by simp [Value.oneCell']) L3.out L4.out (Nat.zero_le _) ?_); intro vv wn ol gr nb; obtain ⟨no, nc, hnv⟩ := owns_slice ol.out; subst hnv; have CG : Hid (Chg (Value.slice ta t tc).ownBlock.toList W5 wn) := (((Chg.refl [] W5).alloc _).mono (by simp)).grown gr.out (fun b2 hb2 => .inl (by have hb3 : (Value.slice ta t tc).ownBlock = some b2 := hb2; rw [hb3]; simp)); have PN : Hid (Blk wn f 61 _) := BF.out.chg CG.out (fun hm => OFFP.out (by simpa using hm)); have z0 := PN.out.cell (j := 0) rfl; have zf := PN.out.free 0))
    have NB := Lib.hid (nb_of nb.out (H0 := W5.heap.size) (by simp))
    have H6 : Hid (Side w (wn.setCell ⟨f, 0, none⟩ (.slice no (t + 1) nc)) (blkT f 61 (fdV (.slice no (t + 1) nc) nx hd u) :: wideT 2 25 (.slice no (t + 1) nc) (txSlots sq (T ++ [(.slice po ln pc, A)])) :: poolWT 3 72 (listsOf (T ++ [(.slice po ln pc, A)])) :: poolT (dataOf (T ++ [(.slice po ln pc, A)])) :: [blkT g 57 (ckV ep sq tl), blkT (g + 1) 61 (fdV (.slice none 0 0) 0 0 0)])) := by
      have a1 : Side w wn (wideT 2 25 (.slice no (t + 1) nc) (txSlots sq T ++ [[.int .u64 (nx : Int), .slice po ln pc]]) :: blkT f 61 (fdV (.slice ta t tc) nx hd u) :: listT (.slice po ln pc) A :: dataT A :: poolWT 3 72 (listsOf T) :: poolT (dataOf T) :: [blkT g 57 (ckV ep sq tl), blkT (g + 1) 61 (fdV (.slice none 0 0) 0 0 0)]) :=
        more_wides R5.out (X := [[.int .u64 (nx : Int), .slice po ln pc]]) (fun x hx => by rw [List.mem_singleton.1 hx]; rfl) CG.out (by rw [txSlots_len, ← HT.out]; rfl) ol.out NB.out
      have a2 := a1.turnAt (b := blkT f 61 (fdV (.slice no (t + 1) nc) nx hd u)) 1 rfl (s := [f]) ((Chg.refl [f] wn).setCell (p := ⟨f, 0, none⟩) (.inl (by simp)) (.slice no (t + 1) nc)) (fun k hk => .inl hk) (PN.out.set 0 _) (fun k hk => .inl hk)
      have a3 : Side w _ (wideT 3 72 (.slice po ln pc) (A.map pvSlot) :: poolWT 3 72 (listsOf T) :: wideT 2 25 (.slice no (t + 1) nc) (txSlots sq T ++ [[.int .u64 (nx : Int), .slice po ln pc]]) :: blkT f 61 (fdV (.slice no (t + 1) nc) nx hd u) :: dataT A :: poolT (dataOf T) :: [blkT g 57 (ckV ep sq tl), blkT (g + 1) 61 (fdV (.slice none 0 0) 0 0 0)]) := ((a2.front 2).front 4).front 1
      have a4 := a3.poolW
      have a5 : Side w _ (poolT (A.map pvRow) :: poolT (dataOf T) :: poolWT 3 72 (listsOf T ++ [(.slice po ln pc, A.map pvSlot)]) :: wideT 2 25 (.slice no (t + 1) nc) (txSlots sq T ++ [[.int .u64 (nx : Int), .slice po ln pc]]) :: blkT f 61 (fdV (.slice no (t + 1) nc) nx hd u) :: [blkT g 57 (ckV ep sq tl), blkT (g + 1) 61 (fdV (.slice none 0 0) 0 0 0)]) := ((a4.front 3).front 4).front 1
      have a6 := ((a5.poolJoin.front 1).front 2).front 3
      rw [txSlots_snoc, listsOf_snoc, dataOf_snoc, ← HT.out, ← HNX.out]
      exact a6
    obtain ⟨W6, hW6⟩ : ∃ W6, W6 = wn.setCell ⟨f, 0, none⟩ (.slice no (t + 1) nc) := ⟨_, rfl⟩
    rw [← hW6] at H6
    rw [← hW6]
    clear hW6 NB ol gr nb CG PN z0 zf R5 BF OFFP OR L3 L4 c0 n0 n1
    obtain ⟨T2, hT2⟩ : ∃ T2, T2 = T ++ [((.slice po ln pc : Value), A)] := ⟨_, rfl⟩
    rw [← hT2] at H6 G2
    have HT2 : Hid (T2.length = t + 1) := by show _ = _; rw [hT2, List.length_append, ← HT.out]; rfl
    obtain ⟨nx1, hnx1⟩ : ∃ nx1, nx1 = nx + 1 := ⟨_, rfl⟩
    obtain ⟨U1, hU1⟩ : ∃ U1, U1 = u + M := ⟨_, rfl⟩
    obtain ⟨S, hS⟩ : ∃ S, S = hd + M := ⟨_, rfl⟩
    obtain ⟨q, hq⟩ : ∃ q, q = S % n := ⟨_, rfl⟩
    rw [← hU1] at G2
    have hn5 := HNN.out
    have hu3 := HU.out
    have hmu := HMU.out
    have e1 : (nx : Int) + 1 = (nx1 : Int) := by omega
    have e2 : (u : Int) + (M : Int) = (U1 : Int) := by omega
    have e3 : (hd : Int) + (M : Int) = (S : Int) := by omega
    have hn3 : ¬ n = 0 := by omega
    have hqn : q < n := by rw [hq]; exact Nat.mod_lt _ (by omega)
    have bA : Hid (U1 ≤ 1000000 ∧ S ≤ 1000000 ∧ q ≤ 1000000) := ⟨by omega, by omega, by omega⟩
    have wn1 : IntKind.u64.wrap (nx1 : Int) = (nx1 : Int) := IntWalk.u64_in _ (by have := HNX.out; omega)
    have HQ : Hid (q = (tl + U1) % n) := by show _ = _; rw [hq, hS, hU1, HD.out, Nat.mod_add_mod, Nat.add_assoc]
    have HN1 : Hid (nx1 = sq + T2.length) := by show _ = _; rw [HT2.out, hnx1, HNX.out, Nat.add_assoc]
    have HUU : Hid (n - U1 < n - u) := by have := HM.out; show _ < _; omega
    have e4 : Int.tmod (S : Int) (n : Int) = (q : Int) := by rw [hq]; rfl
    have e5 : (S : Int) % (n : Int) = (q : Int) := by rw [hq]; rfl
    clear hnx1 hU1 hS hq hn5 hu3 hmu hqn hT2 hM0
    have b6 : Blk W6 f 61 (fdV (.slice no (t + 1) nc) nx hd u) := H6.out.get 0 rfl
    have b7 : Blk (W6.setCell ⟨f, 1, none⟩ (.int .u64 (nx1 : Int))) f 61 (fdV (.slice no (t + 1) nc) nx1 hd u) := b6.set 1 _
    have b8 : Blk ((W6.setCell ⟨f, 1, none⟩ (.int .u64 (nx1 : Int))).setCell ⟨f, 3, none⟩ (.int .i64 (U1 : Int))) f 61 (fdV (.slice no (t + 1) nc) nx1 hd U1) := b7.set 3 _
    have b9 : Hid (Blk (((W6.setCell ⟨f, 1, none⟩ (.int .u64 (nx1 : Int))).setCell ⟨f, 3, none⟩ (.int .i64 (U1 : Int))).setCell ⟨f, 2, none⟩ (.int .i64 (q : Int))) f 61 (fdV (.slice no (t + 1) nc) nx1 q U1)) := b8.set 2 _
    have m1 := b6.cell (j := 1) rfl
    have f1 := b6.free 1
    have m3 := b7.cell (j := 3) rfl
    have f3 := b7.free 3
    have m2 := b8.cell (j := 2) rfl
    have f2 := b8.free 2
    have H9 : Hid (Side w (((W6.setCell ⟨f, 1, none⟩ (.int .u64 (nx1 : Int))).setCell ⟨f, 3, none⟩ (.int .i64 (U1 : Int))).setCell ⟨f, 2, none⟩ (.int .i64 (q : Int))) (blkT f 61 (fdV (.slice no (t + 1) nc) nx1 q U1) :: wideT 2 25 (.slice no (t + 1) nc) (txSlots sq T2) :: poolWT 3 72 (listsOf T2) :: poolT (dataOf T2) :: [blkT g 57 (ckV ep sq tl), blkT (g + 1) 61 (fdV (.slice none 0 0) 0 0 0)])) :=
      H6.out.turnAt (b := blkT f 61 (fdV (.slice no (t + 1) nc) nx1 q U1)) 0 rfl (s := [f]) ((((Chg.refl [f] W6).setCell (p := ⟨f, 1, none⟩) (.inl (by simp)) _).setCell (p := ⟨f, 3, none⟩) (.inl (by simp)) _).setCell (p := ⟨f, 2, none⟩) (.inl (by simp)) _) (fun k hk => .inl hk) b9.out (fun k hk => .inl hk)
    clear b6 b7 b8 H6
    have v1 := wrap_nat bA.out.1
    have v2 := wrap_nat bA.out.2.1
    have v3 := wrap_nat bA.out.2.2
    go_wp2_with fail
    clear v1 v2 v3 e1 e2 e3 e4 e5 wn1 m1 m2 m3 f1 f2 f3
    go_roundw
    case rel =>
      exact ⟨T2, U1, q, .slice no (t + 1) nc, G2, HQ, by rw [← HN1.out]; exact H9⟩
    case measure =>
      have k := usedOf_eq (b9.out.cell (j := 3) rfl)
      rw [MU.out, k]
      exact HUU.out

end Go.Proofs.YtnkdgmnmmmjgjaaGreat
