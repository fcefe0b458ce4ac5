/-
  A poll: valid, and the closures that tell which ballots count. By an AI agent.
-/
import Derived.Test.YtffpjefecmkfmaaBVtIn
import Derived.Test.YtffpjefecmkfmaaBSpChk
import Derived.Test.YtffpjefecmkfmaaBSpAkin
import Derived.BigQuiet
import Derived.Deep.RegionHeld3
namespace Go.Proofs.Ytffpjefecmkfmaa
open Go.RowKit

/-- A ballot as a value. -/
def BalD.val (d : BalD) : Value := .agg #[.bool d.has, .int .u64 (d.s.id : Int), .int .u64 (d.s.ev : Int), .int .u64 (d.s.safe : Int), .int .i64 d.s.role, .int .i64 d.s.m, .int .i64 d.s.c, .int .i64 d.s.t, .int .i64 d.s.ring, .bool d.s.lazy, .bool d.s.lost, d.u, .int .i64 d.s.cur]

def Vt.fineM (d : BalD) (i m : Int) : Bool := d.has && decide d.s.Ok && decide (d.s.m = m) && decide (d.s.role = i)

set_option maxHeartbeats 4000000 in
set_option maxRecDepth 100000 in
theorem valid_any (d : BalD) (i m : Int) (w : World) (hs : Sl w d.u d.s.st) (hg : d.s.st.length ≤ 140737488355328) :
    Calls Try.prog 21 #[d.val, .int .i64 i, .int .i64 m] w fun e w' => e = .returned (.bool (Vt.fineM d i m)) ∧ Hid (Chg [] w w') := by
  obtain ⟨hb, s, u⟩ := d
  replace hs : Sl w u s.st := hs
  replace hg : s.st.length ≤ 140737488355328 := hg
  have CH := Lib.hid (fun W (c : Chg [] w W) => check_any s u W (hs.chg c (by simp)) hg)
  obtain ⟨ao, cp, rfl⟩ := hs.slice
  have C1 : Hid (Chg [] w (w.alloc (.cells #[.bool hb, .int .u64 (s.id : Int), .int .u64 (s.ev : Int), .int .u64 (s.safe : Int), .int .i64 s.role, .int .i64 s.m, .int .i64 s.c, .int .i64 s.t, .int .i64 s.ring, .bool s.lazy, .bool s.lost, .slice ao s.st.length cp, .int .i64 s.cur] 39))) := (Chg.refl _ w).alloc _
  have B1 : Hid (Blk (w.alloc (.cells #[.bool hb, .int .u64 (s.id : Int), .int .u64 (s.ev : Int), .int .u64 (s.safe : Int), .int .i64 s.role, .int .i64 s.m, .int .i64 s.c, .int .i64 s.t, .int .i64 s.ring, .bool s.lazy, .bool s.lost, .slice ao s.st.length cp, .int .i64 s.cur] 39)) w.heap.size 39 [.bool hb, .int .u64 (s.id : Int), .int .u64 (s.ev : Int), .int .u64 (s.safe : Int), .int .i64 s.role, .int .i64 s.m, .int .i64 s.c, .int .i64 s.t, .int .i64 s.ring, .bool s.lazy, .bool s.lost, .slice ao s.st.length cp, .int .i64 s.cur]) := Blk.made w _ _
  have VE : Vt.fineM ⟨hb, s, .slice ao s.st.length cp⟩ i m = (hb && decide s.Ok && decide (s.m = m) && decide (s.role = i)) := rfl
  rw [VE]
  clear VE hs
  unfold BalD.val
  dsimp only
  unfold Sup.val at CH
  have EE : s.err = if s.Ok then 0 else 70 := rfl
  generalize s.err = ER at *
  obtain ⟨K, hK⟩ : ∃ K, decide s.Ok = K := ⟨_, rfl⟩
  rw [hK]
  have E2 : ER = if K = true then 0 else 70 := by rw [EE, ← hK]; simp
  clear EE hK
  generalize s.role = r at *
  generalize s.m = x at *
  generalize (s.id : Int) = a0 at *
  generalize (s.ev : Int) = a1 at *
  generalize (s.safe : Int) = a2 at *
  generalize s.c = a3 at *
  generalize s.t = a4 at *
  generalize s.ring = a5 at *
  generalize s.lazy = a6 at *
  generalize s.lost = a7 at *
  generalize s.cur = a8 at *
  generalize s.st.length = a9 at *
  clear hg s
  cases hb with
  | false =>
    rw [show (false && K && decide (x = m) && decide (r = i)) = false by simp]
    clear CH B1 E2
    go_enter Try.func21, Try.ntmps21
    go_wp2_with fail
    go_ret
    exact ⟨rfl, C1⟩
  | true =>
    have CC := Lib.hid (CH.out _ C1.out)
    clear CH
    cases K with
    | false =>
      rw [show (true && false && decide (x = m) && decide (r = i)) = false by simp]
      rw [if_neg (by decide)] at E2
      rw [E2] at CC
      clear E2
      go_enter Try.func21, Try.ntmps21
      go_wp2_with fail
      refine CC.out.mono ?_
      rintro e w1 ⟨rfl, C⟩
      have C2 := Lib.hid (C1.out.trans C.out)
      clear CC C1 C B1
      go_wp2_with fail
      go_ret
      exact ⟨rfl, C2⟩
    | true =>
      rw [if_pos rfl] at E2
      rw [E2] at CC
      clear E2
      by_cases hm : x = m
      case neg =>
        rw [decide_eq_false hm]
        rw [show (true && true && false && decide (r = i)) = false by simp]
        go_enter Try.func21, Try.ntmps21
        go_wp2_with fail
        refine CC.out.mono ?_
        rintro e w1 ⟨rfl, C⟩
        have C2 := Lib.hid (C1.out.trans C.out)
        have k5 := (B1.out.chg C.out (by simp)).cell (j := 5) rfl
        clear CC C1 C B1
        go_wp2_with fail
        go_ret
        exact ⟨rfl, C2⟩
      subst hm
      rw [decide_eq_true rfl]
      by_cases hr : r = i
      · subst hr
        rw [decide_eq_true rfl]
        go_enter Try.func21, Try.ntmps21
        go_wp2_with fail
        refine CC.out.mono ?_
        rintro e w1 ⟨rfl, C⟩
        have C2 := Lib.hid (C1.out.trans C.out)
        have k4 := (B1.out.chg C.out (by simp)).cell (j := 4) rfl
        have k5 := (B1.out.chg C.out (by simp)).cell (j := 5) rfl
        clear CC C1 C B1
        go_wp2_with fail
        go_ret
        exact ⟨rfl, C2⟩
      · rw [decide_eq_false hr]
        go_enter Try.func21, Try.ntmps21
        go_wp2_with fail
        refine CC.out.mono ?_
        rintro e w1 ⟨rfl, C⟩
        have C2 := Lib.hid (C1.out.trans C.out)
        have k4 := (B1.out.chg C.out (by simp)).cell (j := 4) rfl
        have k5 := (B1.out.chg C.out (by simp)).cell (j := 5) rfl
        clear CC C1 C B1
        go_wp2_with fail
        go_ret
        exact ⟨by show Ending.returned (Value.bool (r == i)) = _; rw [show (r == i) = false by simpa using hr]; rfl, C2⟩

set_option maxHeartbeats 400000 in
theorem counts_any (C G n c i : Nat) (b : Bool) (w : World) (hc : w.cell? ⟨C, 0, none⟩ = some (.slice (some ⟨G, 0, none⟩) n c)) (hi : i < n) (hg : w.cell? ⟨G, i, none⟩ = some (.bool b)) :
    Calls Try.prog 22 #[.int .i64 (i : Int), .pointer (some ⟨C, 0, none⟩)] w fun e w' => e = .returned (.bool b) ∧ w = w' := by
  have h0 : (0 : Int) ≤ i := Int.natCast_nonneg _
  have h1 : (i : Int) < n := by omega
  go_enter Try.func22, Try.ntmps22
  go_wp2_with fail
  go_ret
  exact ⟨rfl, rfl⟩

set_option maxHeartbeats 400000 in
theorem most_any (M : Nat) (x : Int) (w : World) (hc : w.cell? ⟨M, 0, none⟩ = some (.int .u64 x)) :
    Calls Try.prog 23 #[.pointer (some ⟨M, 0, none⟩)] w fun e w' => e = .returned (.int .u64 x) ∧ w = w' := by
  go_enter Try.func23, Try.ntmps23
  go_wp2_with fail
  go_ret
  exact ⟨rfl, rfl⟩

/-- A ballot's cells at b, o, in a world. -/
theorem BalIn.at13 {w : World} {b o : Nat} {d : BalD} (h : BalIn w b o d) : w.cell? ⟨b, o, none⟩ = some (.bool d.has) ∧ w.cell? ⟨b, o + 1, none⟩ = some (.int .u64 (d.s.id : Int)) ∧ w.cell? ⟨b, o + 2, none⟩ = some (.int .u64 (d.s.ev : Int)) ∧ w.cell? ⟨b, o + 3, none⟩ = some (.int .u64 (d.s.safe : Int)) ∧ w.cell? ⟨b, o + 4, none⟩ = some (.int .i64 d.s.role) ∧ w.cell? ⟨b, o + 5, none⟩ = some (.int .i64 d.s.m) ∧ w.cell? ⟨b, o + 6, none⟩ = some (.int .i64 d.s.c) ∧ w.cell? ⟨b, o + 7, none⟩ = some (.int .i64 d.s.t) ∧ w.cell? ⟨b, o + 8, none⟩ = some (.int .i64 d.s.ring) ∧ w.cell? ⟨b, o + 9, none⟩ = some (.bool d.s.lazy) ∧ w.cell? ⟨b, o + 10, none⟩ = some (.bool d.s.lost) ∧ w.cell? ⟨b, o + 11, none⟩ = some d.u ∧ w.cell? ⟨b, o + 12, none⟩ = some (.int .i64 d.s.cur) :=
  ⟨h.c0, h.c1, h.c2, h.c3, h.c4, h.c5, h.c6, h.c7, h.c8, h.c9, h.c10, h.c11, h.c12⟩

set_option maxHeartbeats 4000000 in
set_option maxRecDepth 100000 in
theorem enter_any (L C M G b o n cp i : Nat) (bs : List Value) (x : Nat) (d : BalD) (w : World)
    (hL : w.cell? ⟨L, 0, none⟩ = some (.slice (some ⟨b, o, none⟩) n cp)) (hb : b < w.heap.size) (hd : BalIn w b (o + i * 13) d) (hi : i < n) (hn : n ≤ 140737488355328)
    (hC : w.cell? ⟨C, 0, none⟩ = some (.slice (some ⟨G, 0, none⟩) n n)) (hG : Blk w G 4 bs) (hM : Blk w M 24 [.int .u64 (x : Int)]) (hbl : bs.length = n)
    (hGL : G ≠ L) (hGM : G ≠ M) (hGb : G ≠ b) :
    Calls Try.prog 20 #[.int .i64 (i : Int), .pointer (some ⟨L, 0, none⟩), .pointer (some ⟨C, 0, none⟩), .pointer (some ⟨M, 0, none⟩)] w fun e w' => e = .returned (.tuple #[]) ∧
      Hid (Blk w' G 4 (if Vt.fineM d i (n - 1) = true then bs.set i (.bool true) else bs) ∧ Blk w' M 24 [.int .u64 ((if Vt.fineM d i (n - 1) = true then max x d.s.ev else x : Nat) : Int)] ∧ Chg [G, M] w w') := by
  have HL0 : L < w.heap.size := World.block_lt_of_cell? w _ hL
  have HC0 : C < w.heap.size := World.block_lt_of_cell? w _ hC
  obtain ⟨N, hN⟩ : ∃ N : Int, N = (n : Int) - 1 := ⟨_, rfl⟩
  rw [← hN]
  obtain ⟨T, hT⟩ : ∃ T, Vt.fineM d i N = T := ⟨_, rfl⟩
  have VA := Lib.hid (fun W (c : Chg [] w W) => valid_any d i N W (hd.sl.chg c (by simp)) hd.big)
  rw [hT] at VA ⊢
  have KK : Hid (∀ W, Chg [] w W → W.cell? ⟨L, 0, none⟩ = some (.slice (some ⟨b, o, none⟩) n cp) ∧ W.cell? ⟨b, o + i * 13, none⟩ = some (.bool d.has) ∧ W.cell? ⟨b, o + i * 13 + 1, none⟩ = some (.int .u64 (d.s.id : Int)) ∧ W.cell? ⟨b, o + i * 13 + 2, none⟩ = some (.int .u64 (d.s.ev : Int)) ∧ W.cell? ⟨b, o + i * 13 + 3, none⟩ = some (.int .u64 (d.s.safe : Int)) ∧ W.cell? ⟨b, o + i * 13 + 4, none⟩ = some (.int .i64 d.s.role) ∧ W.cell? ⟨b, o + i * 13 + 5, none⟩ = some (.int .i64 d.s.m) ∧ W.cell? ⟨b, o + i * 13 + 6, none⟩ = some (.int .i64 d.s.c) ∧ W.cell? ⟨b, o + i * 13 + 7, none⟩ = some (.int .i64 d.s.t) ∧ W.cell? ⟨b, o + i * 13 + 8, none⟩ = some (.int .i64 d.s.ring) ∧ W.cell? ⟨b, o + i * 13 + 9, none⟩ = some (.bool d.s.lazy) ∧ W.cell? ⟨b, o + i * 13 + 10, none⟩ = some (.bool d.s.lost) ∧ W.cell? ⟨b, o + i * 13 + 11, none⟩ = some (d.u) ∧ W.cell? ⟨b, o + i * 13 + 12, none⟩ = some (.int .i64 d.s.cur)) := fun W c => ⟨(c.cell (p := ⟨L, 0, none⟩) HL0 (by simp)).trans hL, (hd.chg hb c).at13⟩
  have hmx : max (x : Int) (d.s.ev : Int) = ((max x d.s.ev : Nat) : Int) := by omega
  have AFT : Hid (∀ W, Chg [] w W → ((W.setCell ⟨G, i, none⟩ (.bool true)).cell? ⟨L, 0, none⟩ = some (.slice (some ⟨b, o, none⟩) n cp) ∧ (W.setCell ⟨G, i, none⟩ (.bool true)).cell? ⟨b, o + i * 13, none⟩ = some (.bool d.has) ∧ (W.setCell ⟨G, i, none⟩ (.bool true)).cell? ⟨b, o + i * 13 + 1, none⟩ = some (.int .u64 (d.s.id : Int)) ∧ (W.setCell ⟨G, i, none⟩ (.bool true)).cell? ⟨b, o + i * 13 + 2, none⟩ = some (.int .u64 (d.s.ev : Int)) ∧ (W.setCell ⟨G, i, none⟩ (.bool true)).cell? ⟨b, o + i * 13 + 3, none⟩ = some (.int .u64 (d.s.safe : Int)) ∧ (W.setCell ⟨G, i, none⟩ (.bool true)).cell? ⟨b, o + i * 13 + 4, none⟩ = some (.int .i64 d.s.role) ∧ (W.setCell ⟨G, i, none⟩ (.bool true)).cell? ⟨b, o + i * 13 + 5, none⟩ = some (.int .i64 d.s.m) ∧ (W.setCell ⟨G, i, none⟩ (.bool true)).cell? ⟨b, o + i * 13 + 6, none⟩ = some (.int .i64 d.s.c) ∧ (W.setCell ⟨G, i, none⟩ (.bool true)).cell? ⟨b, o + i * 13 + 7, none⟩ = some (.int .i64 d.s.t) ∧ (W.setCell ⟨G, i, none⟩ (.bool true)).cell? ⟨b, o + i * 13 + 8, none⟩ = some (.int .i64 d.s.ring) ∧ (W.setCell ⟨G, i, none⟩ (.bool true)).cell? ⟨b, o + i * 13 + 9, none⟩ = some (.bool d.s.lazy) ∧ (W.setCell ⟨G, i, none⟩ (.bool true)).cell? ⟨b, o + i * 13 + 10, none⟩ = some (.bool d.s.lost) ∧ (W.setCell ⟨G, i, none⟩ (.bool true)).cell? ⟨b, o + i * 13 + 11, none⟩ = some (d.u) ∧ (W.setCell ⟨G, i, none⟩ (.bool true)).cell? ⟨b, o + i * 13 + 12, none⟩ = some (.int .i64 d.s.cur)) ∧ (W.setCell ⟨G, i, none⟩ (.bool true)).cell? ⟨M, 0, none⟩ = some (.int .u64 (x : Int)) ∧ (W.setCell ⟨G, i, none⟩ (.bool true)).frozen? ⟨M, 0, none⟩ = false ∧ W.cell? ⟨C, 0, none⟩ = some (.slice (some ⟨G, 0, none⟩) n n) ∧ W.frozen? ⟨G, i, none⟩ = false ∧ (∃ v, W.cell? ⟨G, i, none⟩ = some v) ∧
      ∀ q, Blk (((W.setCell ⟨G, i, none⟩ (.bool true)).setCell ⟨M, 0, none⟩ (.int .u64 ((max x d.s.ev : Nat) : Int))).drewN q) G 4 (bs.set i (.bool true)) ∧ Blk (((W.setCell ⟨G, i, none⟩ (.bool true)).setCell ⟨M, 0, none⟩ (.int .u64 ((max x d.s.ev : Nat) : Int))).drewN q) M 24 [.int .u64 ((max x d.s.ev : Nat) : Int)] ∧ Chg [G, M] w (((W.setCell ⟨G, i, none⟩ (.bool true)).setCell ⟨M, 0, none⟩ (.int .u64 ((max x d.s.ev : Nat) : Int))).drewN q)) := fun W c => by
    have hb' : b < W.heap.size := Nat.lt_of_lt_of_le hb c.size
    have cG : Chg [G] W (W.setCell ⟨G, i, none⟩ (.bool true)) := (Chg.refl _ _).setCell (.inl (by simp)) _
    have BG : Blk W G 4 bs := hG.chg c (by simp)
    have BM : Blk W M 24 [.int .u64 (x : Int)] := hM.chg c (by simp)
    have BM2 : Blk (W.setCell ⟨G, i, none⟩ (.bool true)) M 24 [.int .u64 (x : Int)] := BM.chg cG (by simpa using Ne.symm hGM)
    have BG2 := BG.set i (.bool true)
    have hC' : W.cell? ⟨C, 0, none⟩ = some (.slice (some ⟨G, 0, none⟩) n n) := (c.cell (p := ⟨C, 0, none⟩) HC0 (by simp)).trans hC
    have K := KK.out W c
    have tr : ∀ (k : Nat) (u : Value), W.cell? ⟨b, k, none⟩ = some u → (W.setCell ⟨G, i, none⟩ (.bool true)).cell? ⟨b, k, none⟩ = some u := fun k u h => (cG.cell (p := ⟨b, k, none⟩) hb' (by simpa using Ne.symm hGb)).trans h
    obtain ⟨v, hv⟩ : ∃ v, bs[i]? = some v := ⟨_, List.getElem?_eq_getElem (by omega)⟩
    refine ⟨⟨(cG.cell (p := ⟨L, 0, none⟩) (Nat.lt_of_lt_of_le HL0 c.size) (by simpa using Ne.symm hGL)).trans K.1, tr _ _ K.2.1, tr _ _ K.2.2.1, tr _ _ K.2.2.2.1, tr _ _ K.2.2.2.2.1, tr _ _ K.2.2.2.2.2.1, tr _ _ K.2.2.2.2.2.2.1, tr _ _ K.2.2.2.2.2.2.2.1, tr _ _ K.2.2.2.2.2.2.2.2.1, tr _ _ K.2.2.2.2.2.2.2.2.2.1, tr _ _ K.2.2.2.2.2.2.2.2.2.2.1, tr _ _ K.2.2.2.2.2.2.2.2.2.2.2.1, tr _ _ K.2.2.2.2.2.2.2.2.2.2.2.2.1, tr _ _ K.2.2.2.2.2.2.2.2.2.2.2.2.2⟩, BM2.cell (j := 0) rfl, BM2.free 0, hC', BG.free i, ⟨v, BG.cell hv⟩, fun q => ?_⟩
    have cM : Chg [G, M] w ((W.setCell ⟨G, i, none⟩ (.bool true)).setCell ⟨M, 0, none⟩ (.int .u64 ((max x d.s.ev : Nat) : Int))) := ((c.mono (by simp)).setCell (.inl (by simp)) _).setCell (.inl (by simp)) _
    exact ⟨(Blk.other BG2 (Ne.symm hGM) _).drewN q, (BM2.set 0 _).drewN q, cM.drewN q⟩
  have NOT : Hid (∀ W, Chg [] w W → Blk W G 4 bs ∧ Blk W M 24 [.int .u64 (x : Int)] ∧ Chg [G, M] w W) := fun W c => ⟨hG.chg c (by simp), hM.chg c (by simp), c.mono (by simp)⟩
  have K0 := KK.out w (Chg.refl _ _)
  have W0 : Hid (Chg [] w w.drew) := (Chg.refl [] w).drewN 1
  obtain ⟨uo, uc, hu⟩ := hd.sl.slice
  generalize d.s.st.length = un at hu
  unfold BalD.val at VA
  rw [hu] at VA KK AFT K0
  have hw1 : IntKind.i64.wrap ((n : Int) - 1) = N ∧ wrap64 ((n : Int) - 1) = N := by
    rw [hN]
    constructor
    · rw [IntKind.wrap_i64]; omega
    · unfold wrap64; omega
  have h0 : (0 : Int) ≤ i := Int.natCast_nonneg _
  have h1 : (i : Int) < n := by omega
  have hn0 : (0 : Int) ≤ n := Int.natCast_nonneg _
  have hn1 : (n : Int) ≤ 140737488355328 := by omega
  obtain ⟨mx, hmx2⟩ : ∃ mx : Nat, mx = max x d.s.ev := ⟨_, rfl⟩
  rw [← hmx2] at hmx AFT ⊢
  clear hd hG hM hT hu hL hC hN hbl hmx2
  generalize d.has = hs0 at *
  generalize (d.s.id : Int) = z1 at *
  generalize (d.s.ev : Int) = z2 at *
  generalize (d.s.safe : Int) = z3 at *
  generalize d.s.role = z4 at *
  generalize d.s.m = z5 at *
  generalize d.s.c = z6 at *
  generalize d.s.t = z7 at *
  generalize d.s.ring = z8 at *
  generalize d.s.lazy = z9 at *
  generalize d.s.lost = z10 at *
  generalize d.s.cur = z12 at *
  clear d
  obtain ⟨k0, k1, k2, k3, k4, k5, k6, k7, k8, k9, k10, k11, k12, k13⟩ := K0
  go_enter Try.func20, Try.ntmps20
  go_wp2_with fail
  go_region_held3 (fun W' : World => W'.cell? ⟨L, 0, none⟩ = some (.slice (some ⟨b, o, none⟩) n cp) ∧ W'.cell? ⟨b, o + i * 13, none⟩ = some (.bool hs0) ∧ W'.cell? ⟨b, o + i * 13 + 1, none⟩ = some (.int .u64 z1) ∧ W'.cell? ⟨b, o + i * 13 + 2, none⟩ = some (.int .u64 z2) ∧ W'.cell? ⟨b, o + i * 13 + 3, none⟩ = some (.int .u64 z3) ∧ W'.cell? ⟨b, o + i * 13 + 4, none⟩ = some (.int .i64 z4) ∧ W'.cell? ⟨b, o + i * 13 + 5, none⟩ = some (.int .i64 z5) ∧ W'.cell? ⟨b, o + i * 13 + 6, none⟩ = some (.int .i64 z6) ∧ W'.cell? ⟨b, o + i * 13 + 7, none⟩ = some (.int .i64 z7) ∧ W'.cell? ⟨b, o + i * 13 + 8, none⟩ = some (.int .i64 z8) ∧ W'.cell? ⟨b, o + i * 13 + 9, none⟩ = some (.bool z9) ∧ W'.cell? ⟨b, o + i * 13 + 10, none⟩ = some (.bool z10) ∧ W'.cell? ⟨b, o + i * 13 + 11, none⟩ = some (.slice uo un uc) ∧ W'.cell? ⟨b, o + i * 13 + 12, none⟩ = some (.int .i64 z12)) (first | exact KK.out _ W0.out | exact KK.out _ Q1.out) (first
    | (go_at_call 21; refine (VA.out _ W0.out).mono ?_; rintro e w1 ⟨rfl, C1⟩; have Q1 : Hid (Chg [] w w1) := W0.out.trans C1.out))
  cases T with
  | false =>
    have E := Lib.hid (NOT.out _ Q1.out)
    clear NOT AFT VA KK k0 k1 k2 k3 k4 k5 k6 k7 k8 k9 k10 k11 k12 k13 W0 C1 Q1
    go_wp2_with fail
    go_end0
    exact ⟨rfl, E⟩
  | true =>
    obtain ⟨⟨a0, a1, a2, a3, a4, a5, a6, a7, a8, a9, a10, a11, a12, a13⟩, aM, fM, aC, fG, ⟨v, aG⟩, E⟩ := AFT.out _ Q1.out
    replace E := Lib.hid E
    clear NOT AFT VA KK k0 k1 k2 k3 k4 k5 k6 k7 k8 k9 k10 k11 k12 k13 W0 C1 Q1
    go_wp2_with fail
    go_region
    all_goals go_end0
    all_goals exact ⟨rfl, E.out 1⟩

end Go.Proofs.Ytffpjefecmkfmaa
