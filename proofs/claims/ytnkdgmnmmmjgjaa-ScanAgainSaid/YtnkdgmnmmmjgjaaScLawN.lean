/-
  ScanNumbers: its walk. By an AI agent.
-/
import Derived.Test.YtnkdgmnmmmjgjaaScUse
import Derived.Deep.QuietTactic
import Derived.BigQuiet
import Derived.StillTailTactics
namespace Go.Proofs.Ytnkdgmnmmmjgjaa
open Go.RowKit Crc

/-- A law's walk that ends well. -/
def Holds (W : World) (e : Ending) (W' : World) : Prop := e = .returned (.bool true) ∧ Hid (Chg [] W W')

set_option maxHeartbeats 4000000 in
set_option maxRecDepth 100000 in
theorem numbers_far (ao : Option Addr) (len cap ep sq : Nat) (tl : Int) (w : World) (h : 300000 < len) :
    Calls Try.prog 6 #[.slice ao len cap, .agg #[.int .u64 (ep : Int), .int .u64 (sq : Int), .int .i64 tl]] w (Holds w) := by
  have h1 : (300000 : Int) < len := by omega
  go_enter Try.func6, Try.ntmps6
  go_wp2_with fail
  go_ret
  exact ⟨rfl, (Chg.refl _ _).alloc _⟩

set_option maxHeartbeats 4000000 in
set_option maxRecDepth 100000 in
theorem numbers_bad (ao : Option Addr) (len cap ep sq : Nat) (tl : Int) (w : World) (hb : ¬ OfAsks len ep sq tl) (h : ¬ 300000 < len) (hep : ep < 18446744073709551616) (hsq : sq < 18446744073709551616) :
    Calls Try.prog 6 #[.slice ao len cap, .agg #[.int .u64 (ep : Int), .int .u64 (sq : Int), .int .i64 tl]] w (Holds w) := by
  have h1 : ¬ (300000 : Int) < len := by omega
  have OB := Lib.hid (of_bad len ep sq tl hb (by omega) hep hsq ao cap (w.alloc (.cells #[.int .u64 (ep : Int), .int .u64 (sq : Int), .int .i64 tl] 39)))
  have B := Blk.made w [.int .u64 (ep : Int), .int .u64 (sq : Int), .int .i64 tl] 39
  have x0 := B.cell (j := 0) rfl
  have x1 := B.cell (j := 1) rfl
  have x2 := B.cell (j := 2) rfl
  clear hb hep hsq h B
  go_enter Try.func6, Try.ntmps6
  go_wp2_with fail
  refine OB.out.mono ?_
  rintro e w1 ⟨rfl, C⟩
  unfold FoundV
  have C1 : Hid (Chg [] w (w1.alloc (.cells #[.slice none 0 0, .int .u64 0, .int .i64 0, .int .i64 0] 41))) := ((((Chg.refl _ _).alloc _).trans C.out).alloc _)
  clear OB x0 x1 x2 C
  go_wp2_with fail
  refine (known_any _).mono ?_
  rintro e w2 ⟨rfl, C⟩
  go_wp2_with fail
  go_ret
  exact ⟨rfl, C1.out.trans C.out⟩

/-- What was used by the first of the batches. -/
def usedOf (T : List Tx) (k : Nat) : Nat := ((found T).take k |>.map fun l => 2 * l.length + 1).sum

theorem usedOf_zero (T : List Tx) : usedOf T 0 = 0 := by simp [usedOf]

theorem usedOf_succ {T : List Tx} {k : Nat} {t : Tx} (h : T[k]? = some t) : usedOf T (k + 1) = usedOf T k + (2 * t.2.length + 1) := by
  have h1 : (found T)[k]? = some (dOf t.2) := by unfold found; rw [List.getElem?_map, h]; rfl
  unfold usedOf
  rw [take_snoc h1, List.map_append, List.sum_append]
  simp [dOf]

theorem usedOf_all {bs : List Nat} {ep tl sq u : Nat} {T : List Tx} (D : Sc.Done bs ep tl sq (found T) u) : usedOf T T.length = u := by
  unfold usedOf
  rw [List.take_of_length_le (by simp [found])]
  exact D.1.used.symm

theorem sum_mono : ∀ (l : List Nat) (k : Nat), (l.take k).sum ≤ l.sum
  | [], k => by simp
  | a :: l, 0 => by simp
  | a :: l, k + 1 => by
    have := sum_mono l k
    simp only [List.take_succ_cons, List.sum_cons]
    omega

theorem usedOf_le (T : List Tx) (k : Nat) : usedOf T k ≤ usedOf T T.length := by
  have e : (found T).take T.length = found T := List.take_of_length_le (by simp [found])
  unfold usedOf
  rw [e, List.map_take]
  exact sum_mono _ k

theorem found_pos {bs : List Nat} {ep tl sq u : Nat} {T : List Tx} (D : Sc.Done bs ep tl sq (found T) u) {k : Nat} {t : Tx} (h : T[k]? = some t) : 1 ≤ t.2.length ∧ sq + k ≤ 4611686018427387904 := by
  have hk : k < (found T).length := by unfold found; rw [List.length_map]; exact (List.getElem?_eq_some_iff.1 h).1
  obtain ⟨u', n, g, W⟩ := D.1.less hk
  have e1 : (found T)[k]? = some (dOf t.2) := by unfold found; rw [List.getElem?_map, h]; rfl
  refine ⟨?_, W.small⟩
  have hkt : ((found T).take k).length = k := by rw [List.length_take]; omega
  by_cases c : k + 1 < (found T).length
  · obtain ⟨u2, n2, g2, W2⟩ := D.1.less c
    have g3 := Sc.Got.more g (by rw [hkt]; exact W)
    obtain ⟨e2, _⟩ := Sc.Got.same (n := k + 1) (by rw [List.length_take]; omega) (by rw [List.length_append, List.length_take, List.length_singleton]; omega) g2 g3
    rw [take_snoc e1] at e2
    have e3 := List.append_cancel_left e2
    have e4 : dOf t.2 = Sc.pts bs (tl + u') n := by simpa using e3
    have := congrArg List.length e4
    rw [Sc.pts_len] at this
    have h5 := W.pos
    unfold dOf at this
    rw [List.length_map] at this
    omega
  · have g3 := Sc.Got.more g (by rw [hkt]; exact W)
    obtain ⟨e2, _⟩ := Sc.Got.same (n := k + 1) (by omega) (by rw [List.length_append, List.length_take, List.length_singleton]; omega) D.1 g3
    have e5 : (found T).take (k + 1) = found T := List.take_of_length_le (by omega)
    have e6 : found T = (found T).take k ++ [dOf t.2] := by rw [← take_snoc e1, e5]
    have e3 := List.append_cancel_left (e6.symm.trans e2)
    have e4 : dOf t.2 = Sc.pts bs (tl + u') n := by simpa using e3
    have := congrArg List.length e4
    rw [Sc.pts_len] at this
    have h5 := W.pos
    unfold dOf at this
    rw [List.length_map] at this
    omega

/-- How what was found reads. -/
theorem found_at {w0 w : World} {ts : List Thing} {tv : Value} {sq : Nat} {T : List Tx} (h : Side w0 w (wideT 2 33 tv (txSlots sq T) :: poolWT 3 49 (listsOf T) :: ts)) {k : Nat} {t : Tx} (hk : T[k]? = some t) :
    ∃ g c ao c2, tv = .slice (some ⟨g, 0, none⟩) T.length c ∧ t.1 = .slice ao t.2.length c2 ∧ w.cell? ⟨g, k * 2, none⟩ = some (.int .u64 ((sq : Int) + k)) ∧ w.cell? ⟨g, k * 2 + 1, none⟩ = some t.1 := by
  have ow : OwnW 2 w 0 33 tv (txSlots sq T) := h.get 0 rfl
  have pw : PoolW 3 w 49 (listsOf T) := h.get 1 rfl
  have R := ow.rd
  obtain ⟨lo, lc, hlv⟩ := R.slice
  rw [txSlots_len] at hlv
  subst hlv
  have hx : (txSlots sq T)[k]? = some [.int .u64 ((sq + k : Nat) : Int), t.1] := by unfold txSlots; rw [List.getElem?_mapIdx, hk]; rfl
  obtain ⟨g, rfl, hc⟩ := R.at hx
  have o2 := pw.row (t.1, t.2.map pvSlot) (List.mem_of_getElem? (i := k) (by unfold listsOf; rw [List.getElem?_map, hk]; rfl))
  obtain ⟨ao, c2, h2⟩ := o2.slice
  rw [List.length_map] at h2
  exact ⟨g, lc, ao, c2, rfl, h2, by have := hc 0 _ rfl; rw [Nat.add_zero] at this; rw [this]; simp, hc 1 _ rfl⟩

/-- The numbers of what was found. -/
structure NumF (n sq tl u : Nat) (T : List Tx) : Prop where
  fits : u ≤ n
  each : ∀ k t, T[k]? = some t → 1 ≤ t.2.length ∧ sq + k ≤ 4611686018427387904 ∧ usedOf T (k + 1) ≤ n
  few : T.length ≤ n

theorem numF {bs : List Nat} {ep tl sq u : Nat} {T : List Tx} (D : Sc.Done bs ep tl sq (found T) u) : NumF (bs.length / 128) sq tl u T := by
  have hu := usedOf_all D
  have hf := D.1.fits
  refine ⟨hf, fun k t h => ⟨(found_pos D h).1, (found_pos D h).2, ?_⟩, ?_⟩
  · have := usedOf_le T (k + 1); omega
  · have : ∀ k, k ≤ T.length → k ≤ usedOf T k := fun k => by
      induction k with
      | zero => intro _; omega
      | succ k ih =>
        intro hk
        rw [usedOf_succ (List.getElem?_eq_getElem (show k < T.length by omega))]
        have := ih (by omega)
        omega
    have := this _ (Nat.le_refl _)
    omega

set_option maxHeartbeats 8000000 in
set_option maxRecDepth 100000 in
theorem numbers_ok (ao : Option Addr) (len cap ep sq : Nat) (tl n : Nat) (bs : List Nat) (w : World) (hs : Sl w (.slice ao len cap) (ints bs)) (hb : Bs bs) (hc : len ≤ cap) (ok : OfAsks bs.length ep sq (tl : Int)) (h : ¬ 300000 < len) (hn : n = bs.length / 128) :
    Calls Try.prog 6 #[.slice ao len cap, .agg #[.int .u64 (ep : Int), .int .u64 (sq : Int), .int .i64 (tl : Int)]] w (Holds w) := by
  have hlen : len = bs.length := by
    obtain ⟨o2, c2, e2⟩ := hs.slice
    rw [ints_length] at e2
    injection e2
  obtain ⟨k1, k2, k3, k4, k5⟩ := ok
  have hep : ep ≤ 4611686018427387904 := k4.1.1
  have hsq : sq ≤ 4611686018427387904 := k4.1.2.2
  have OB : Hid (∀ (W : World) (sq' : Nat), Chg [] w W → sq' < 18446744073709551616 → Calls Try.prog 12 #[.slice ao len cap, .agg #[.int .u64 (ep : Int), .int .u64 (sq' : Int), .int .i64 (tl : Int)]] W (OfAny W bs ep sq' (tl : Int))) := fun W sq' c q =>
    of_any ao len cap ep sq' tl bs W (hs.chgNil c) hb hc (by omega) (by omega) q
  have OK : Hid (OfAsks bs.length ep sq (tl : Int)) := ⟨k1, k2, k3, k4, k5⟩
  have h1 : ¬ (300000 : Int) < len := by omega
  have n1 : 5 ≤ n := by omega
  have n2 : n ≤ 2048 := by omega
  have tn : tl < n := by omega
  have d1 : (len : Int) / 128 = (n : Int) := by omega
  have d2 : Int.tdiv (len : Int) 128 = (n : Int) := (Int.tdiv_eq_ediv_of_nonneg (by omega)).trans d1
  have B := Blk.made w [.int .u64 (ep : Int), .int .u64 (sq : Int), .int .i64 (tl : Int)] 39
  have x0 := B.cell (j := 0) rfl
  have x1 := B.cell (j := 1) rfl
  have x2 := B.cell (j := 2) rfl
  have BX : Hid (Blk (w.alloc (.cells #[.int .u64 (ep : Int), .int .u64 (sq : Int), .int .i64 (tl : Int)] 39)) w.heap.size 39 [.int .u64 (ep : Int), .int .u64 (sq : Int), .int .i64 (tl : Int)]) := B
  have HN := Lib.hid hn
  clear B k1 k2 k3 k4 k5 hs hb hc hn hlen
  go_enter Try.func6, Try.ntmps6
  go_wp2_with fail
  refine (OB.out _ sq ((Chg.refl _ _).alloc _) (by omega)).mono ?_
  rintro e w1 (⟨_, tv, T, u, D, rfl, H⟩ | ⟨q, _⟩)
  case inr => exact absurd OK.out q
  unfold FoundV
  have HU := Lib.hid (usedOf_all D)
  have F := numF D
  rw [← HN.out] at F ⊢
  rw [show ((tl : Int)).toNat = tl from rfl] at D ⊢
  obtain ⟨hd, hhd⟩ : ∃ hd, hd = (tl + u) % n := ⟨_, rfl⟩
  obtain ⟨N, hN⟩ : ∃ N, N = T.length := ⟨_, rfl⟩
  rw [← hhd, ← hN]
  have hdn : hd < n := by rw [hhd]; exact Nat.mod_lt _ (by omega)
  have hNn : N ≤ 2048 := by have := F.few; omega
  have un : u ≤ n := F.fits
  have FF := Lib.hid F
  have DD := Lib.hid D
  have HNN := Lib.hid hN
  have HHD := Lib.hid hhd
  obtain ⟨nx, hnx⟩ : ∃ nx, nx = sq + N := ⟨_, rfl⟩
  rw [← hnx]
  obtain ⟨tv0, tc, htv⟩ := (show OwnW 2 w1 0 33 tv (txSlots sq T) from H.out.get 0 rfl).slice
  rw [txSlots_len, ← hN] at htv
  subst htv
  have HNX := Lib.hid hnx
  clear hN hhd hnx F D x0 x1 x2
  go_wp2_with fail
  have C1 : Chg [] (w.alloc (.cells #[.int .u64 (ep : Int), .int .u64 (sq : Int), .int .i64 (tl : Int)] 39)) w1 := H.out.chg
  have BF : Blk (w1.alloc (.cells #[.slice tv0 N tc, .int .u64 (nx : Int), .int .i64 (hd : Int), .int .i64 (u : Int)] 41)) w1.heap.size 41 [.slice tv0 N tc, .int .u64 (nx : Int), .int .i64 (hd : Int), .int .i64 (u : Int)] := Blk.made w1 _ _
  obtain ⟨w2, hw2⟩ : ∃ w2, w2 = w1.alloc (.cells #[.slice tv0 N tc, .int .u64 (nx : Int), .int .i64 (hd : Int), .int .i64 (u : Int)] 41) := ⟨_, rfl⟩
  have C2 : Hid (Chg [] (w.alloc (.cells #[.int .u64 (ep : Int), .int .u64 (sq : Int), .int .i64 (tl : Int)] 39)) w2) := by rw [hw2]; exact C1.alloc _
  have H2 : Hid (Side w w2 [wideT 2 33 (.slice tv0 N tc) (txSlots sq T), poolWT 3 49 (listsOf T), poolT (dataOf T)]) := Lib.hid (Side.rebase' ((Chg.refl _ _).alloc _) (by rw [hw2]; exact H.out.quiet ((Chg.refl [] w1).alloc _)))
  rw [← hw2] at BF ⊢
  obtain ⟨fb, hfb⟩ : ∃ fb, fb = w1.heap.size := ⟨_, rfl⟩
  rw [← hfb] at BF ⊢
  obtain ⟨cb, hcb⟩ : ∃ cb, cb = w.heap.size := ⟨_, rfl⟩
  have CE : Hid (∀ W, Chg [] w2 W → Chg [] w W ∧ W.cell? ⟨cb, 0, none⟩ = some (.int .u64 (ep : Int)) ∧ W.cell? ⟨cb, 1, none⟩ = some (.int .u64 (sq : Int)) ∧ W.cell? ⟨cb, 2, none⟩ = some (.int .i64 (tl : Int)) ∧ W.cell? ⟨fb, 0, none⟩ = some (.slice tv0 N tc) ∧ W.cell? ⟨fb, 1, none⟩ = some (.int .u64 (nx : Int)) ∧ W.cell? ⟨fb, 2, none⟩ = some (.int .i64 (hd : Int)) ∧ W.cell? ⟨fb, 3, none⟩ = some (.int .i64 (u : Int))) := fun W c => by
    have b1 := (BX.out.chg C2.out (by simp)).chg c (by simp)
    have b2 := BF.chg c (by simp)
    rw [← hcb] at b1
    exact ⟨(((Chg.refl _ _).alloc _).trans C2.out).trans c, b1.cell (j := 0) rfl, b1.cell (j := 1) rfl, b1.cell (j := 2) rfl, b2.cell (j := 0) rfl, b2.cell (j := 1) rfl, b2.cell (j := 2) rfl, b2.cell (j := 3) rfl⟩
  rw [← hcb] at ⊢
  clear H C1 BF hw2 hfb hcb BX C2
  go_loopw [8, 9] (fun us i wr => ∃ k : Nat, k ≤ N ∧ i = .int .i64 k ∧ us = .int .i64 (usedOf T k) ∧ Hid (Chg [] w2 wr)) (fun _ i _ => N - (intOf i).toNat)
  case atStart => exact ⟨0, Nat.zero_le _, rfl, (by rw [usedOf_zero]; rfl), Chg.refl _ _⟩
  case round =>
    obtain ⟨k, hk, rfl, rfl, C⟩ := hrel
    obtain ⟨CW0, z0, z1, z2, y0, y1, y2, y3⟩ := CE.out wr C.out
    replace CW0 := Lib.hid CW0
    by_cases hlt : k < N
    · have hi0 : (0 : Int) ≤ k := Int.natCast_nonneg _
      have hi1 : (k : Int) < N := by omega
      obtain ⟨t, ht⟩ : ∃ t, T[k]? = some t := ⟨_, List.getElem?_eq_getElem (by rw [← HNN.out]; exact hlt)⟩
      obtain ⟨e1, e2, e3⟩ := FF.out.each k t ht
      obtain ⟨g, c, ao2, c2, hg, ht1, v0, v1⟩ := found_at (H2.out.quiet C.out) ht
      obtain ⟨rfl, -, rfl⟩ : tv0 = some ⟨g, 0, none⟩ ∧ N = T.length ∧ tc = c := by simpa using hg
      rw [ht1] at v1
      have hus := usedOf_succ ht
      rw [hus] at e3
      obtain ⟨m, hm⟩ : ∃ m, m = t.2.length := ⟨_, rfl⟩
      rw [← hm] at v1 e1 e3 hus
      obtain ⟨U, hU⟩ : ∃ U, U = usedOf T k := ⟨_, rfl⟩
      rw [← hU] at e3 hus ⊢
      replace hus := Lib.hid hus
      clear ht ht1 hg hm hU
      have sk0 : (0 : Int) ≤ (sq : Int) + k := by omega
      have sk1 : (sq : Int) + k ≤ 4611686018427387904 := by omega
      have m0 : ¬ (m : Int) = 0 := by omega
      have m1 : (m : Int) ≤ 2048 := by omega
      have U1 : (U : Int) + (2 * m + 1) ≤ 2048 := by omega
      go_wp2_with fail
      have W1 : IntKind.u64.wrap (k : Int) = (k : Int) := IntWalk.u64_in _ (by omega)
      have W2 : IntKind.u64.wrap ((sq : Int) + k) = (sq : Int) + k := IntWalk.u64_in _ (by omega)
      have m2 : ((m : Int) == 0) = false := by simpa using m0
      have m3 : decide ((m : Int) = 0) = false := by simpa using m0
      go_quiet (fail)
      clear W1 W2 m2 m3
      go_wp2_with fail
      exact ⟨⟨k + 1, by omega, by go_num, by rw [hus.out]; push_cast; rfl, C.out.drewN _⟩, by simp [intOf]; omega⟩
    · obtain rfl : k = N := by omega
      have eu : usedOf T k = u := by rw [HNN.out]; exact HU.out
      rw [eu]
      have s1 : (sq : Int) + k = (nx : Int) := by have := HNX.out; omega
      have s2 : (nx : Int) ≤ 4611686018427389952 := by omega
      have s3 : ((tl : Int) + u) % n = (hd : Int) := by rw [HHD.out]; push_cast; rfl
      have s4 : (u : Int) ≤ n := by omega
      have s5 : (tl : Int) < n := by omega
      have s6 : ((u : Int) > (n : Int)) = False := by simpa using s4
      clear eu hlt hk
      go_wp2_with fail
      have W1 : IntKind.u64.wrap (k : Int) = (k : Int) := IntWalk.u64_in _ (by omega)
      have W2 : IntKind.u64.wrap ((sq : Int) + k) = (nx : Int) := by rw [s1]; exact IntWalk.u64_in _ (by omega)
      have W3 : IntKind.i64.wrap ((tl : Int) + u) = (tl : Int) + u := (sc_wrap (by omega) (by omega)).1
      have W4 : Int.tmod ((tl : Int) + u) n = (hd : Int) := (Int.tmod_eq_emod_of_nonneg (by omega)).trans s3
      have W5 : IntKind.i64.wrap (hd : Int) = (hd : Int) := (sc_wrap (by omega) (by omega)).1
      have W6 : decide ((n : Int) < (u : Int)) = false := by simpa using s4
      have W7 : ((n : Int) == 0) = false := by simp; omega
      have W8 : ¬ n = 0 := by omega
      go_still_tail 33, (by kernel_rfl)
      change wpList _ _ _ _ _ wr.drew
      clear W1 W2 W3 W4 W5 W6 W7 W8
      go_wp2_with (go_at_call 8; refine (known_any _).mono ?_; rintro e w4 ⟨rfl, C4⟩; have C5 : Hid (Chg [] w2 w4) := (C.out.drew).trans C4.out; obtain ⟨CW5, r0, r1, r2, q0, q1, q2, q3⟩ := CE.out w4 C5.out; clear C4 CW0 z0 z1 z2 y0 y1 y2 y3)
      · go_ret
        exact ⟨rfl, CW5⟩
      · go_ret
        exact ⟨rfl, CW5⟩
      have hk2 : ((k : Int) == 0) = false ∧ (nx : Int) ≤ 4611686018427387904 := by assumption
      have hk3 : k ≠ 0 := by
        intro c
        rw [c] at hk2
        exact absurd hk2.1 (by decide)
      have k1 : 1 ≤ k := by omega
      have sqk : sq + k ≤ 4611686018427387904 := by have := hk2.2; omega
      have O2 := OB.out w4 (sq + 1) CW5 (by omega)
      rw [show (((sq + 1 : Nat)) : Int) = (sq : Int) + 1 from rfl] at O2
      refine O2.mono ?_
      rintro e w5 (⟨_, tv', T', u', D', rfl, H'⟩ | ⟨q, _⟩)
      case inr =>
        obtain ⟨b1, b2, b3, ⟨⟨b4, b5, b6⟩, b7⟩, b8⟩ := OK.out
        exact absurd ⟨b1, b2, b3, ⟨⟨b4, Nat.le_add_left 1 sq, show sq + 1 ≤ 4611686018427387904 by omega⟩, b7⟩, b8⟩ q
      have hT : found T ≠ [] := fun c => by
        have h9 := congrArg List.length c
        unfold found at h9
        rw [List.length_map, ← HNN.out] at h9
        exact hk3 h9
      have e9 := (Sc.Done.uniq (DD.out.later hT) D').1
      obtain rfl : T' = [] := by unfold found at e9; exact List.map_eq_nil_iff.1 e9.symm
      obtain ⟨o9, c9, hv9⟩ := (show OwnW 2 w5 0 33 tv' (txSlots (sq + 1) []) from H'.out.get 0 rfl).slice
      have hv8 : tv' = .slice o9 0 c9 := hv9
      clear hv9
      subst hv8
      unfold FoundV
      obtain ⟨nv1, hnv1⟩ : ∃ x : Nat, x = sq + 1 + ([] : List Tx).length := ⟨_, rfl⟩
      obtain ⟨nv2, hnv2⟩ : ∃ x : Nat, x = ((tl : Int).toNat + u') % (bs.length / 128) := ⟨_, rfl⟩
      rw [← hnv1, ← hnv2]
      have B9 := (Blk.made w5 [.slice o9 0 c9, .int .u64 (nv1 : Int), .int .i64 (nv2 : Int), .int .i64 (u' : Int)] 41).cell (j := 0) rfl
      have CE9 : Hid (Chg [] w (w5.alloc (.cells #[.slice o9 0 c9, .int .u64 (nv1 : Int), .int .i64 (nv2 : Int), .int .i64 (u' : Int)] 41))) := (CW5.trans H'.out.chg).alloc _
      clear hnv1 hnv2 H' e9 hT D' O2 CW5 C5 hk2
      go_wp2_with fail
      go_ret
      exact ⟨rfl, CE9.out⟩

end Go.Proofs.Ytnkdgmnmmmjgjaa
