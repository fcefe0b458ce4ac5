/-
  ScanAgain: its walk. By an AI agent.
-/
import Derived.Test.YtnkdgmnmmmjgjaaScLawN
import Derived.Test.YtnkdgmnmmmjgjaaGSame
namespace Go.Proofs.Ytnkdgmnmmmjgjaa
open Go.RowKit Crc

theorem good_err {ep sq : Nat} {A : List Pv} (hn : numsOk ep sq) (hg : Sc.Good (dOf A)) : scErr ep sq (A.map toPt) = 0 := by
  obtain ⟨h1, h2, h3⟩ := hg
  unfold numsOk at hn
  have hl : (dOf A).length = A.length := by simp [dOf]
  have hl2 : (A.map toPt).length = A.length := List.length_map ..
  have M : ∀ d ∈ A.map toPt, farP d = false ∧ shortP d = false := fun d hd => by
    obtain ⟨p, hp, rfl⟩ := List.mem_map.1 hd
    obtain ⟨m, r, l, _⟩ := h3 p.1 (List.mem_map_of_mem hp)
    refine ⟨?_, ?_⟩
    · unfold farP toPt
      dsimp only
      apply decide_eq_false
      omega
    · unfold shortP toPt
      dsimp only
      rw [ints_length, l]
      decide
  unfold scErr
  rw [hl2, if_pos (by omega), if_neg, if_neg]
  · intro h
    obtain ⟨d, hd, hx⟩ := List.any_eq_true.1 h
    rw [(M d hd).2] at hx
    cases hx
  · rintro (h | h)
    · unfold farN at h
      omega
    · obtain ⟨d, hd, hx⟩ := List.any_eq_true.1 h
      rw [(M d hd).1] at hx
      cases hx

/-- A batch that was found, made into sectors again. -/
theorem found_secs {w0 w : World} {ts : List Thing} {tv : Value} {ep sq : Nat} {T : List Tx} (h : Side w0 w (wideT 2 33 tv (txSlots sq T) :: poolWT 3 49 (listsOf T) :: poolT (dataOf T) :: ts)) {k : Nat} {t : Tx} (hk : T[k]? = some t) (hn : numsOk ep (sq + k)) (hg : Sc.Good (dOf t.2)) :
    Calls Try.prog 10 #[.int .u64 (ep : Int), .agg #[.int .u64 ((sq + k : Nat) : Int), t.1]] w (SecGives w ep (sq + k) (dOf t.2)) := by
  have pw : PoolW 3 w 49 (listsOf T) := h.get 1 rfl
  have pd : Pool w (dataOf T) := h.get 2 rfl
  have ow := pw.row (t.1, t.2.map pvSlot) (List.mem_of_getElem? (i := k) (by unfold listsOf; rw [List.getElem?_map, hk]; rfl))
  have R : ∀ p ∈ t.2, OwnR w 0 p.2 (ub p.1.bs).length (ub p.1.bs) := fun p hp => pd.row (pvRow p) (List.mem_flatMap.2 ⟨t, List.mem_of_getElem? hk, List.mem_map_of_mem hp⟩)
  have M : ∀ p ∈ t.2, Sc.PtOk p.1 := fun p hp => hg.2.2 p.1 (List.mem_map_of_mem hp)
  have hl : t.2.length ≤ 1023 := by have := hg.2.1; unfold dOf at this; rw [List.length_map] at this; exact this
  have P := pts_of2 ow R (by omega) (fun p hp => by rw [(M p hp).2.2.1]; decide)
  have k2 := sectors_ok ep (sq + k) _ _ w P (fun d hd => by
    obtain ⟨p, hp, rfl⟩ := List.mem_map.1 hd
    obtain ⟨e, o⟩ := R p hp
    exact ⟨ints_by (M p hp).2.2.2, owned_capd o⟩) (good_err hn hg)
  rw [outer_pd] at k2
  exact k2

/-- What was found, made into sectors. -/
theorem again_sec {bs : List Nat} {ep tl sq u : Nat} {T : List Tx} (hb : Bs bs) (hl : 128 ≤ bs.length) (hsq : 1 ≤ sq) (hep : ep ≤ 4611686018427387904) (D : Sc.Done bs ep tl sq (found T) u) {k : Nat} {t : Tx} (hk : T[k]? = some t) :
    numsOk ep (sq + k) ∧ Sc.Good (dOf t.2) ∧ usedOf T (k + 1) = usedOf T k + (Sc.secs ep (sq + k) (dOf t.2)).length ∧ ∀ (j : Nat) (s : List Nat), (Sc.secs ep (sq + k) (dOf t.2))[j]? = some s → Sc.sec bs (tl + usedOf T k + j) = s := by
  obtain ⟨e, g, _, c⟩ := D.1.own hb hl
  have e1 : (found T)[k]? = some (dOf t.2) := by unfold found; rw [List.getElem?_map, hk]; rfl
  obtain ⟨_, q⟩ := found_pos D hk
  have ln : (dOf t.2).length = t.2.length := by simp [dOf]
  have ul : ∀ (L : List (List Pd)) (s : Nat), (Sc.chain ep s L).length = (L.map fun l => 2 * l.length + 1).sum := fun L => by
    induction L with
    | nil => intro s; rfl
    | cons a L ih => intro s; show (Sc.secs ep s a ++ Sc.chain ep (s + 1) L).length = _; rw [List.length_append, Sc.secs_len, ih, List.map_cons, List.sum_cons]
  have U : (Sc.chain ep sq ((found T).take k)).length = usedOf T k := ul _ _
  refine ⟨⟨hep, by omega, q⟩, g _ (List.mem_of_getElem? e1), ?_, fun j s hs => ?_⟩
  · rw [usedOf_succ hk, Sc.secs_len, ln]
  · have := (Sc.chain_take_lt ep sq e1).2 j s hs
    have := c _ s this
    rw [U] at this
    rw [Nat.add_assoc]
    exact this

set_option maxHeartbeats 4000000 in
set_option maxRecDepth 100000 in
theorem again_far (ao : Option Addr) (len cap ep sq : Nat) (tl : Int) (w : World) (h : 300000 < len) :
    Calls Try.prog 7 #[.slice ao len cap, .agg #[.int .u64 (ep : Int), .int .u64 (sq : Int), .int .i64 tl]] w (Holds w) := by
  have h1 : (300000 : Int) < len := by omega
  go_enter Try.func7, Try.ntmps7
  go_wp2_with fail
  go_ret
  exact ⟨rfl, (Chg.refl _ _).alloc _⟩

set_option maxHeartbeats 4000000 in
set_option maxRecDepth 100000 in
theorem again_bad (ao : Option Addr) (len cap ep sq : Nat) (tl : Int) (w : World) (hb : ¬ OfAsks len ep sq tl) (h : ¬ 300000 < len) (hep : ep < 18446744073709551616) (hsq : sq < 18446744073709551616) :
    Calls Try.prog 7 #[.slice ao len cap, .agg #[.int .u64 (ep : Int), .int .u64 (sq : Int), .int .i64 tl]] w (Holds w) := by
  have h1 : ¬ (300000 : Int) < len := by omega
  have OB := Lib.hid (of_bad len ep sq tl hb (by omega) hep hsq ao cap (w.alloc (.cells #[.int .u64 (ep : Int), .int .u64 (sq : Int), .int .i64 tl] 39)))
  have B := Blk.made w [.int .u64 (ep : Int), .int .u64 (sq : Int), .int .i64 tl] 39
  have x0 := B.cell (j := 0) rfl
  have x1 := B.cell (j := 1) rfl
  have x2 := B.cell (j := 2) rfl
  clear hb hep hsq h B
  go_enter Try.func7, Try.ntmps7
  go_wp2_with fail
  refine OB.out.mono ?_
  rintro e w1 ⟨rfl, C⟩
  unfold FoundV
  have C1 : Hid (Chg [] w (w1.alloc (.cells #[.slice none 0 0, .int .u64 0, .int .i64 0, .int .i64 0] 41))) := ((((Chg.refl _ _).alloc _).trans C.out).alloc _)
  clear OB x0 x1 x2 C
  go_wp2_with fail
  refine (known_any _).mono ?_
  rintro e w2 ⟨rfl, C⟩
  go_wp2_with fail
  go_ret
  exact ⟨rfl, C1.out.trans C.out⟩

set_option maxHeartbeats 8000000 in
set_option maxRecDepth 100000 in
theorem again_ok (rb ro len cap ep sq : Nat) (tl n : Nat) (bs : List Nat) (w : World) (hs : Sl w (.slice (some ⟨rb, ro, none⟩) len cap) (ints bs)) (hb : Bs bs) (hc : len ≤ cap) (ok : OfAsks bs.length ep sq (tl : Int)) (h : ¬ 300000 < len) (hn : n = bs.length / 128) :
    Calls Try.prog 7 #[.slice (some ⟨rb, ro, none⟩) len cap, .agg #[.int .u64 (ep : Int), .int .u64 (sq : Int), .int .i64 (tl : Int)]] w (Holds w) := by
  have hlen : len = bs.length := by
    obtain ⟨o2, c2, e2⟩ := hs.slice
    rw [ints_length] at e2
    injection e2
  obtain ⟨k1, k2, k3, k4, k5⟩ := ok
  have hep : ep ≤ 4611686018427387904 := k4.1.1
  have hsq : sq ≤ 4611686018427387904 := k4.1.2.2
  have hsq1 : 1 ≤ sq := k4.1.2.1
  have OB : Hid (∀ (W : World), Chg [] w W → Calls Try.prog 12 #[.slice (some ⟨rb, ro, none⟩) len cap, .agg #[.int .u64 (ep : Int), .int .u64 (sq : Int), .int .i64 (tl : Int)]] W (OfAny W bs ep sq (tl : Int))) := fun W c =>
    of_any _ len cap ep sq tl bs W (hs.chgNil c) hb hc (by omega) (by omega) (by omega)
  have OK : Hid (OfAsks bs.length ep sq (tl : Int)) := ⟨k1, k2, k3, k4, k5⟩
  have h1 : ¬ (300000 : Int) < len := by omega
  have n1 : 5 ≤ n := by omega
  have n2 : n ≤ 2048 := by omega
  have tn : tl < n := by omega
  have d1 : (len : Int) / 128 = (n : Int) := by omega
  have d2 : Int.tdiv (len : Int) 128 = (n : Int) := (Int.tdiv_eq_ediv_of_nonneg (by omega)).trans d1
  have SEC : Hid (∀ (W : World) (x : Nat), Chg [] w W → Sl W (secV rb ro cap n x) (ints (Sc.sec bs x)) ∧ (Sc.sec bs x).length = 128) := fun W x c =>
    ⟨sec_sl (hs.chgNil c) hlen.symm (by omega) (by omega) hc, Sc.sec_len (by omega) x⟩
  have LN : Hid (len = 128 * n) := by show len = _; omega
  have LC : len ≤ cap := hc
  have AG : Hid (∀ (T : List Tx) (u : Nat), Sc.Done bs ep tl sq (found T) u → ∀ (k : Nat) (t : Tx), T[k]? = some t → numsOk ep (sq + k) ∧ Sc.Good (dOf t.2) ∧ usedOf T (k + 1) = usedOf T k + (Sc.secs ep (sq + k) (dOf t.2)).length ∧ ∀ (j : Nat) (s : List Nat), (Sc.secs ep (sq + k) (dOf t.2))[j]? = some s → Sc.sec bs (tl + usedOf T k + j) = s) := fun T u D k t ht =>
    again_sec hb (by omega) hsq1 hep D ht
  have B := Blk.made w [.int .u64 (ep : Int), .int .u64 (sq : Int), .int .i64 (tl : Int)] 39
  have x0 := B.cell (j := 0) rfl
  have x1 := B.cell (j := 1) rfl
  have x2 := B.cell (j := 2) rfl
  have BX : Hid (Blk (w.alloc (.cells #[.int .u64 (ep : Int), .int .u64 (sq : Int), .int .i64 (tl : Int)] 39)) w.heap.size 39 [.int .u64 (ep : Int), .int .u64 (sq : Int), .int .i64 (tl : Int)]) := B
  have HN := Lib.hid hn
  clear B k1 k2 k3 k4 k5 hs hb hc hn hlen
  go_enter Try.func7, Try.ntmps7
  go_wp2_with fail
  refine (OB.out _ ((Chg.refl _ _).alloc _)).mono ?_
  rintro e w1 (⟨_, tv, T, u, D, rfl, H⟩ | ⟨q, _⟩)
  case inr => exact absurd OK.out q
  unfold FoundV
  have HU := Lib.hid (usedOf_all D)
  have F := numF D
  rw [← HN.out] at F ⊢
  rw [show ((tl : Int)).toNat = tl from rfl] at D ⊢
  obtain ⟨hd, hhd⟩ : ∃ hd, hd = (tl + u) % n := ⟨_, rfl⟩
  obtain ⟨N, hN⟩ : ∃ N, N = T.length := ⟨_, rfl⟩
  rw [← hhd, ← hN]
  have hdn : hd < n := by rw [hhd]; exact Nat.mod_lt _ (by omega)
  have hNn : N ≤ 2048 := by have := F.few; omega
  have FF := Lib.hid F
  have AT := Lib.hid (AG.out T u D)
  have HNN := Lib.hid hN
  have HHD := Lib.hid hhd
  obtain ⟨nx, hnx⟩ : ∃ nx, nx = sq + N := ⟨_, rfl⟩
  rw [← hnx]
  obtain ⟨tv0, tc, htv⟩ := (show OwnW 2 w1 0 33 tv (txSlots sq T) from H.out.get 0 rfl).slice
  rw [txSlots_len, ← hN] at htv
  subst htv
  have HNX := Lib.hid hnx
  clear hN hhd hnx F D x0 x1 x2 AG
  have zz : (w1.alloc (.cells #[.slice tv0 N tc, .int .u64 (nx : Int), .int .i64 (hd : Int), .int .i64 (u : Int)] 41)).cell? ⟨w.heap.size, 2, none⟩ = some (.int .i64 (tl : Int)) := (BX.out.chg (H.out.chg.alloc _) (by simp)).cell (j := 2) rfl
  go_wp2_with fail
  clear zz
  have C1 : Chg [] (w.alloc (.cells #[.int .u64 (ep : Int), .int .u64 (sq : Int), .int .i64 (tl : Int)] 39)) w1 := H.out.chg
  have BF : Blk (w1.alloc (.cells #[.slice tv0 N tc, .int .u64 (nx : Int), .int .i64 (hd : Int), .int .i64 (u : Int)] 41)) w1.heap.size 41 [.slice tv0 N tc, .int .u64 (nx : Int), .int .i64 (hd : Int), .int .i64 (u : Int)] := Blk.made w1 _ _
  obtain ⟨w2, hw2⟩ : ∃ w2, w2 = w1.alloc (.cells #[.slice tv0 N tc, .int .u64 (nx : Int), .int .i64 (hd : Int), .int .i64 (u : Int)] 41) := ⟨_, rfl⟩
  have C2 : Hid (Chg [] (w.alloc (.cells #[.int .u64 (ep : Int), .int .u64 (sq : Int), .int .i64 (tl : Int)] 39)) w2) := by rw [hw2]; exact C1.alloc _
  have H2 : Hid (Side w w2 [wideT 2 33 (.slice tv0 N tc) (txSlots sq T), poolWT 3 49 (listsOf T), poolT (dataOf T)]) := Lib.hid (Side.rebase' ((Chg.refl _ _).alloc _) (by rw [hw2]; exact H.out.quiet ((Chg.refl [] w1).alloc _)))
  rw [← hw2] at BF ⊢
  obtain ⟨fb, hfb⟩ : ∃ fb, fb = w1.heap.size := ⟨_, rfl⟩
  rw [← hfb] at BF ⊢
  obtain ⟨cb, hcb⟩ : ∃ cb, cb = w.heap.size := ⟨_, rfl⟩
  have CE : Hid (∀ W, Chg [] w2 W → Chg [] w W ∧ W.cell? ⟨cb, 0, none⟩ = some (.int .u64 (ep : Int)) ∧ W.cell? ⟨cb, 2, none⟩ = some (.int .i64 (tl : Int)) ∧ W.cell? ⟨fb, 0, none⟩ = some (.slice tv0 N tc) ∧ W.cell? ⟨fb, 2, none⟩ = some (.int .i64 (hd : Int))) := fun W c => by
    have b1 := (BX.out.chg C2.out (by simp)).chg c (by simp)
    have b2 := BF.chg c (by simp)
    rw [← hcb] at b1
    exact ⟨(((Chg.refl _ _).alloc _).trans C2.out).trans c, b1.cell (j := 0) rfl, b1.cell (j := 2) rfl, b2.cell (j := 0) rfl, b2.cell (j := 2) rfl⟩
  rw [← hcb] at ⊢
  clear H C1 BF hw2 hfb hcb BX C2 OB OK
  go_loopw [8, 9] (fun a i wr => ∃ k P : Nat, k ≤ N ∧ P < n ∧ Hid (P = (tl + usedOf T k) % n) ∧ a = .int .i64 P ∧ i = .int .i64 k ∧ Hid (Chg [] w2 wr)) (fun _ i _ => N - (intOf i).toNat)
  case atStart => exact ⟨0, tl, Nat.zero_le _, tn, (by show tl = _; rw [usedOf_zero, Nat.add_zero, Nat.mod_eq_of_lt tn]), rfl, rfl, Chg.refl _ _⟩
  case round =>
    obtain ⟨k, P, hk, hP, HP, rfl, rfl, C⟩ := hrel
    obtain ⟨CW0, z0, z2, y0, y2⟩ := CE.out wr C.out
    replace CW0 := Lib.hid CW0
    by_cases hlt : k < N
    · have hi0 : (0 : Int) ≤ k := Int.natCast_nonneg _
      have hi1 : (k : Int) < N := by omega
      obtain ⟨t, ht⟩ : ∃ t, T[k]? = some t := ⟨_, List.getElem?_eq_getElem (by rw [← HNN.out]; exact hlt)⟩
      obtain ⟨e1, e2, e3, e4⟩ := AT.out k t ht
      obtain ⟨g, c, ao2, c2, hg, ht1, v0, v1⟩ := found_at (H2.out.quiet C.out) ht
      obtain ⟨rfl, -, rfl⟩ : tv0 = some ⟨g, 0, none⟩ ∧ N = T.length ∧ tc = c := by simpa using hg
      have SE : Hid (∀ W, Chg [] w2 W → Calls Try.prog 10 #[.int .u64 (ep : Int), .agg #[.int .u64 ((sq : Int) + k), .slice ao2 t.2.length c2]] W (SecGives W ep (sq + k) (dOf t.2))) := fun W c => by
        have m := found_secs (H2.out.quiet c) ht e1 e2
        rw [ht1] at m
        exact m
      rw [ht1] at v1
      obtain ⟨S, hS⟩ : ∃ S, S = Sc.secs ep (sq + k) (dOf t.2) := ⟨_, rfl⟩
      have S8 : Hid (∀ x ∈ S, x.length = 128 ∧ Bs x) := by rw [hS]; exact Sc.secs_ok e2
      have SN : Hid (∀ (j : Nat) (s : List Nat), S[j]? = some s → Sc.sec bs (tl + usedOf T k + j) = s) := by rw [hS]; exact e4
      have HUS : Hid (usedOf T (k + 1) = usedOf T k + S.length) := by rw [hS]; exact e3
      have FE := (FF.out.each k t ht).2.2
      rw [HUS.out] at FE
      have HS := Lib.hid hS
      obtain ⟨m, hm⟩ : ∃ m, m = t.2.length := ⟨_, rfl⟩
      rw [← hm] at v1 SE
      obtain ⟨U, hU⟩ : ∃ U, U = usedOf T k := ⟨_, rfl⟩
      rw [← hU] at SN HUS HP FE
      have hS1 : 1 ≤ S.length := by rw [hS, Sc.secs_len]; omega
      obtain ⟨M, hM⟩ : ∃ M, M = S.length := ⟨_, rfl⟩
      rw [← hM] at FE
      have HM := Lib.hid hM
      have hM2 : M ≤ 2048 := by omega
      have hM1 : 1 ≤ M := by omega
      have KX : Hid (∀ W, Chg [] w2 W → W.cell? ⟨cb, 0, none⟩ = some (.int .u64 (ep : Int)) ∧ W.cell? ⟨fb, 0, none⟩ = some (.slice (some ⟨g, 0, none⟩) N tc) ∧ W.cell? ⟨g, k * 2, none⟩ = some (.int .u64 ((sq : Int) + k)) ∧ W.cell? ⟨g, k * 2 + 1, none⟩ = some (.slice ao2 m c2)) := fun W c => by
        obtain ⟨g', c', ao', c2', hg', ht', v0', v1'⟩ := found_at (H2.out.quiet c) ht
        obtain ⟨rfl, -, -⟩ : g = g' ∧ N = T.length ∧ tc = c' := by simpa using hg'
        rw [ht1] at v1'
        rw [← hm] at v1'
        exact ⟨(CE.out W c).2.1, (CE.out W c).2.2.2.1, v0', v1'⟩
      clear ht ht1 hg hm e1 e2 e3 e4 hM FE hS hU hS1
      go_wp2_with fail
      go_region_held3 (fun w' : World => w'.cell? ⟨cb, 0, none⟩ = some (.int .u64 (ep : Int)) ∧ w'.cell? ⟨fb, 0, none⟩ = some (.slice (some ⟨g, 0, none⟩) N tc) ∧ w'.cell? ⟨g, k * 2, none⟩ = some (.int .u64 ((sq : Int) + k)) ∧ w'.cell? ⟨g, k * 2 + 1, none⟩ = some (.slice ao2 m c2)) (first | exact ⟨z0, y0, v0, v1⟩ | exact KX.out _ C3.out) (first | (go_at_call 10; refine (SE.out _ (by first | exact C.out | exact C.out.drew | exact C.out.drewN _)).mono ?_; rintro e w3 ⟨lv, vs, rfl, VS, H⟩; have C3 : Hid (Chg [] w2 w3) := (by first | exact C.out.trans H.out.chg | exact (C.out.drew).trans H.out.chg | exact (C.out.drewN _).trans H.out.chg)))
      rename_i hHeld
      clear hHeld
      rw [← HS.out] at VS
      obtain ⟨g5, x5, rfl⟩ : ∃ g x, lv = .slice (some ⟨g, 0, none⟩) M x := by
        obtain ⟨p1, hp1, _⟩ := row_get VS.out (i := 0) (s := S[0]'(by have := HM.out; omega)) (List.getElem?_eq_getElem (by have := HM.out; omega))
        obtain ⟨g, x, hlv, _⟩ := row_cell H.out 0 rfl hp1
        rw [rows_len VS.out, ← HM.out] at hlv
        exact ⟨g, x, hlv⟩
      clear z0 z2 y0 y2 v0 v1 SE KX
      go_wp2_with fail
      go_loopw [8, 12] (fun a j wr => ∃ i P : Nat, i ≤ M ∧ P < n ∧ Hid (P = (tl + U + i) % n) ∧ a = .int .i64 P ∧ j = .int .i64 i ∧ Hid (Chg [] w3 wr)) (fun _ j _ => M - (intOf j).toNat)
      case atStart => exact ⟨0, P, Nat.zero_le _, hP, (by show P = _; rw [Nat.add_zero]; exact HP.out), rfl, rfl, Chg.refl _ _⟩
      case round =>
        clear hP HP
        obtain ⟨i, P, hi, hP, HP, rfl, rfl, CI⟩ := hrel
        have hj0 : (0 : Int) ≤ i := Int.natCast_nonneg _
        by_cases hlt2 : i < M
        · have hj1 : (i : Int) < M := by omega
          obtain ⟨sx, hsx⟩ : ∃ sx, S[i]? = some sx := ⟨_, List.getElem?_eq_getElem (by rw [← HM.out]; exact hlt2)⟩
          obtain ⟨p, hp, hps⟩ := row_get VS.out hsx
          obtain ⟨g', x', hg', hcell⟩ := row_cell (H.out.quiet CI.out) 0 rfl hp
          obtain ⟨rfl, -, -⟩ : g5 = g' ∧ M = vs.length ∧ x5 = x' := by simpa using hg'
          obtain ⟨xo, xc, hxv⟩ := (row_sl (H.out.quiet CI.out) 1 rfl hp hps).1.slice
          have sl8 := (S8.out sx (List.mem_of_getElem? hsx)).1
          rw [ints_length, sl8] at hxv
          obtain ⟨A, hA⟩ : ∃ A, A = 128 * P := ⟨_, rfl⟩
          obtain ⟨Q, hQ⟩ : ∃ Q, Q = P + 1 := ⟨_, rfl⟩
          obtain ⟨E, hE⟩ : ∃ E, E = A + 128 := ⟨_, rfl⟩
          obtain ⟨R, hR⟩ : ∃ R, R = Q % n := ⟨_, rfl⟩
          have hRn : R < n := by rw [hR]; exact Nat.mod_lt _ (by omega)
          have HR : Hid (R = (tl + U + (i + 1)) % n) := by
            show R = _
            rw [hR, hQ, HP.out, Nat.mod_add_mod, Nat.add_assoc]
          have SM : Hid (∀ q, Calls Try.prog 16 #[.slice xo 128 xc, .slice (some ⟨rb, ro + A, none⟩) 128 (cap - A)] (wr.drewN q) fun e w' => e = .returned (.bool true) ∧ ∃ q', w' = (wr.drewN q).drewN q') := fun q => by
            have s1 := (row_sl (H.out.quiet (CI.out.drewN q)) 1 rfl hp hps).1
            rw [hxv] at s1
            have s2 := (SEC.out (wr.drewN q) P (CE.out _ (C3.out.trans (CI.out.drewN q))).1).1
            have e9 : Sc.sec bs P = sx := by
              have e8 := SN.out i sx hsx
              have e7 := Sc.sec_mod bs (tl + U + i) 0
              rw [← HN.out, ← HP.out, Nat.add_zero, Nat.add_zero] at e7
              rw [e7, e8]
            rw [e9] at s2
            unfold secV at s2
            rw [Nat.mod_eq_of_lt hP, ← hA] at s2
            exact same_true _ _ _ _ s1 s2 (by rw [ints_length, sl8]; decide)
          have hLN := LN.out
          have a1 : (P : Int) * 128 = (A : Int) := by omega
          have a2 : (P : Int) + 1 = (Q : Int) := by omega
          have a3 : (Q : Int) * 128 = (E : Int) := by omega
          have a4 : E - A = 128 := by omega
          have a5 : A ≤ E := by omega
          have a6 : E ≤ cap := by omega
          have a7 : ¬ cap = A := by omega
          have a8 : E ≤ 262144 := by omega
          have a9 : Q ≤ 2048 := by omega
          have b2 : (Q : Int) % n = (R : Int) := by rw [hR]; push_cast; rfl
          rw [hxv] at hcell
          have WA := Lib.hid (sc_wrap (z := (A : Int)) (by omega) (by omega))
          have WQ := Lib.hid (sc_wrap (z := (Q : Int)) (by omega) (by omega))
          have WE := Lib.hid (sc_wrap (z := (E : Int)) (by omega) (by omega))
          have BT : Hid (Int.tmod (Q : Int) n = (R : Int)) := (Int.tmod_eq_emod_of_nonneg (by omega)).trans b2
          have n0 : ¬ n = 0 := by omega
          clear hLN hR hE hA hQ hg' hp hps hsx hxv sl8 HP
          have MS : Hid (M - (i + 1) < M - i) := by show _ < _; omega
          have HI : i + 1 ≤ M := hlt2
          go_wp2_with fail
          have w1 := WA.out
          have w2 := WQ.out
          have w3 := WE.out
          go_quiet (first | (go_at_call 16; exact Calls.quiet_of (SM.out _)))
          clear w1 w2 w3
          have b1 := BT.out
          go_wp2_with fail
          exact ⟨⟨i + 1, R, HI, hRn, HR, rfl, by first | rfl | go_num, CI.out.drewN _⟩, by simp [intOf]; exact MS.out⟩
        · obtain rfl : i = M := by omega
          have HX : Hid (P = (tl + usedOf T (k + 1)) % n) := by
            show P = _
            rw [HUS.out, ← HM.out, ← Nat.add_assoc]
            exact HP.out
          clear hlt2 hi hj0
          go_wp2_with fail
          exact ⟨⟨k + 1, P, by omega, hP, HX, rfl, by go_num, C3.out.trans CI.out⟩, by simp [intOf]; omega⟩
    · obtain rfl : k = N := by omega
      obtain rfl : P = hd := by rw [HP.out, HNN.out, HU.out, HHD.out]
      have q0 : ((P : Int) == (P : Int)) = true := by simp
      clear hlt hk
      go_wp2_with fail
      refine (known_any _).mono ?_
      rintro e w4 ⟨rfl, C4⟩
      obtain ⟨CW5, r0, r2, t0, t2⟩ := CE.out w4 (C.out.trans C4.out)
      clear z0 z2 y0 y2
      go_wp2_with fail
      go_ret
      exact ⟨by first | rfl | simp, CW5⟩

end Go.Proofs.Ytnkdgmnmmmjgjaa
